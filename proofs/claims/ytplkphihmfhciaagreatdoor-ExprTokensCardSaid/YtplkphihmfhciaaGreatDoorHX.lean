/-
  Expressions: the document's own Tokens and SameTokens; the walk of ExprTokens.
-/
import Derived.Test.YtplkphihmfhciaaGreatDoorHS
import Derived.Test.YtplkphihmfhciaaGreatDoorHR
import Derived.Test.YtplkphihmfhciaaGreatDoorMI
namespace Go.Proofs.YtplkphihmfhciaaGreatDoor
open Go Go.RowKit Go.Lib Go.Shelf WM TM EM

set_option maxRecDepth 100000 in
set_option maxHeartbeats 2000000 in
theorem rsameK (ao bo : Option Addr) (l : List Tok) (ca cb : Nat) (hl : l.length ≤ 1000000) (w : World) (h : TokensAt ao l w) (h2 : TokensAt bo l w) :
  Calls Tryz.prog 16 #[.slice ao l.length ca, .slice bo l.length cb] w fun e w' => e = .returned (.bool true) ∧ Below w.heap.size w w' := by
 have HA := Lib.hid h
 have HB := Lib.hid h2
 obtain ⟨n, hn⟩ : ∃ n, l.length = n := ⟨_, rfl⟩
 have HN := Lib.hid hn
 rw [hn] at hl ⊢
 clear h h2 hn
 go_enter Tryz.func16, Tryz.ntmps16
 go_wp2_with fail
 go_loopw [5] (fun i wr => ∃ (k z : Nat), k ≤ n ∧ i = .int .i64 k ∧ wr = w.drewN z) (fun i _ => n - (RowKit.intOf i).toNat)
 case atStart => exact ⟨0, 0, by omega, rfl, rfl⟩
 case round =>
  obtain ⟨k, z, hk, rfl, rfl⟩ := hrel
  by_cases hlt : k < n
  ·obtain ⟨b, off, rfl, hb, c0, c1, c2⟩ := HA.out k (by rw [HN.out]; exact hlt)
   obtain ⟨b2, off2, rfl, hb2, d0, d1, d2⟩ := HB.out k (by rw [HN.out]; exact hlt)
   obtain ⟨x, hx⟩ : ∃ x, l.getD k T0 = x := ⟨_, rfl⟩
   rw [hx] at c0 c1 c2 d0 d1 d2
   obtain ⟨xk, xl, xx⟩ := x
   obtain ⟨X, hX⟩ : ∃ X, str xx = X := ⟨_, rfl⟩
   simp only [hX] at c0 c1 c2 d0 d1 d2
   have hkz : (k : Int) < (n : Int) := by omega
   clear hx hX
   go_wp2_with fail
   go_quiet (fail)
   go_wp2_with fail
   go_roundw
   case rel => exact ⟨k + 1, _, by omega, by go_num, by first | rfl | exact World.drewN_drewN _ _ _⟩
   case measure => simp [RowKit.intOf]; omega
  ·have he : k = n := by omega
   subst he
   go_wp2_with fail
   go_ret
   exact ⟨rfl, bdn (bref _) _⟩
set_option maxRecDepth 100000 in
set_option maxHeartbeats 4000000 in
theorem rtokens (e : Ex) (so : Option Addr) (cap : Nat) (w : World) (hm : siz e ≤ 100000) (h : ExprsAt so e.args w) :
  Calls Tryz.prog 15 #[.agg #[.int .i64 e.op, .int .i64 e.n, .string (str e.s), .slice so e.args.length cap]] w fun r w' =>
   ∃ ao c, r = .returned (.tuple #[.slice ao (gT e).length c, .int .i64 (vE e)]) ∧ TokensAt ao (gT e) w' ∧ Below w.heap.size w w' := by
 have VA := Lib.hid (fun W (hW : Below w.heap.size w W) => rvalidate e so cap W hm (h.keep hW))
 have hb2 : Below w.heap.size w (w.alloc (.cells #[.int .i64 e.op, .int .i64 e.n, .string (str e.s), .slice so e.args.length cap] 27)) := bal (bref _) _
 by_cases hv : vE e = 0
 ·have hok := vE_ok hv
  have WT := Lib.hid (fun W (hW : Below w.heap.size w W) => rwritten e so cap 0 0 W rfl (by omega) hok.2.2.1 hm (h.keep hW))
  rw [wr_zero] at WT
  have hg : gT e = body e := by unfold gT; rw [if_pos hv]
  rw [hg, hv]
  rw [hv] at VA
  clear hv hok hg h hm
  go_enter Tryz.func15, Tryz.ntmps15
  go_wp2_with fail
  refine (VA.out _ hb2).mono ?_
  rintro r w1 ⟨rfl, hb1⟩
  have HB1 := Lib.hid (btr hb2 hb1)
  have b0 := keepc hb1 (show (w.alloc (.cells #[.int .i64 e.op, .int .i64 e.n, .string (str e.s), .slice so e.args.length cap] 27)).cell? ⟨w.heap.size, 0, none⟩ = some (.int .i64 e.op) by simp [go_sem])
  have b1 := keepc hb1 (show (w.alloc (.cells #[.int .i64 e.op, .int .i64 e.n, .string (str e.s), .slice so e.args.length cap] 27)).cell? ⟨w.heap.size, 1, none⟩ = some (.int .i64 e.n) by simp [go_sem])
  have b2 := keepc hb1 (show (w.alloc (.cells #[.int .i64 e.op, .int .i64 e.n, .string (str e.s), .slice so e.args.length cap] 27)).cell? ⟨w.heap.size, 2, none⟩ = some (.string (str e.s)) by simp [go_sem])
  have b3 := keepc hb1 (show (w.alloc (.cells #[.int .i64 e.op, .int .i64 e.n, .string (str e.s), .slice so e.args.length cap] 27)).cell? ⟨w.heap.size, 3, none⟩ = some (.slice so e.args.length cap) by simp [go_sem])
  clear hb1
  go_wp2_with fail
  refine (WT.out _ HB1.out).mono ?_
  rintro r w2 ⟨ao, c, rfl, _, hT, hb⟩
  have HT := Lib.hid hT
  have HB2 := Lib.hid (btr HB1.out hb)
  clear hT hb b0 b1 b2 b3
  go_wp2_with fail
  go_ret2
  exact ⟨ao, c, rfl, HT.out, HB2.out⟩
 ·have hg : gT e = [] := by unfold gT; rw [if_neg hv]
  rw [hg]
  obtain ⟨V, hV⟩ : ∃ V, vE e = V := ⟨_, rfl⟩
  rw [hV] at VA hv
  rw [hV]
  have hv2 : (V == 0) = false := by rw [beq_eq_false_iff_ne]; exact hv
  clear hv hV h hm hg
  go_enter Tryz.func15, Tryz.ntmps15
  go_wp2_with fail
  refine (VA.out _ hb2).mono ?_
  rintro r w1 ⟨rfl, hb1⟩
  have HB1 := Lib.hid (btr hb2 hb1)
  have b0 := keepc hb1 (show (w.alloc (.cells #[.int .i64 e.op, .int .i64 e.n, .string (str e.s), .slice so e.args.length cap] 27)).cell? ⟨w.heap.size, 0, none⟩ = some (.int .i64 e.op) by simp [go_sem])
  have b1 := keepc hb1 (show (w.alloc (.cells #[.int .i64 e.op, .int .i64 e.n, .string (str e.s), .slice so e.args.length cap] 27)).cell? ⟨w.heap.size, 1, none⟩ = some (.int .i64 e.n) by simp [go_sem])
  have b2 := keepc hb1 (show (w.alloc (.cells #[.int .i64 e.op, .int .i64 e.n, .string (str e.s), .slice so e.args.length cap] 27)).cell? ⟨w.heap.size, 2, none⟩ = some (.string (str e.s)) by simp [go_sem])
  have b3 := keepc hb1 (show (w.alloc (.cells #[.int .i64 e.op, .int .i64 e.n, .string (str e.s), .slice so e.args.length cap] 27)).cell? ⟨w.heap.size, 3, none⟩ = some (.slice so e.args.length cap) by simp [go_sem])
  clear hb1
  go_wp2_with fail
  go_ret2
  exact ⟨none, 0, rfl, TokensAt.nil _ _, HB1.out⟩
set_option maxRecDepth 100000 in
set_option maxHeartbeats 8000000 in
theorem exprTokens (e : Ex) (so : Option Addr) (cap : Nat) (w : World) (hG : Gf w) (hS : Es w) (hL : Lies (e, so, cap) w) :
  Calls Tryz.prog 4 #[.agg #[.int .i64 e.op, .int .i64 e.n, .string (str e.s), .slice so e.args.length cap]] w fun r w' => r = .returned (.bool true) ∧ Below w.heap.size w w' := by
 have LV := Lib.hid (fun W (hW : Below w.heap.size w W) => mlive W (hG.keep hW) (hS.keep hW))
 have GR := Lib.hid (fun W (hW : Below w.heap.size w W) => rgreat e 300 so cap W (by decide) (hL.1.keep hW))
 have hb2 : Below w.heap.size w (w.alloc (.cells #[.int .i64 e.op, .int .i64 e.n, .string (str e.s), .slice so e.args.length cap] 27)) := bal (bref _) _
 cases hg : grtB e 300 with
 | true =>
  rw [hg] at GR
  clear hg hG hS hL
  go_enter Tryz.func4, Tryz.ntmps4
  go_wp2_with fail
  refine (GR.out _ hb2).mono ?_
  rintro r w1 ⟨rfl, hb1⟩
  have HB1 := Lib.hid (btr hb2 hb1)
  clear hb1
  go_wp2_with fail
  refine (LV.out _ HB1.out).mono ?_
  rintro r w9 ⟨rfl, hb9⟩
  have HB9 := Lib.hid (btr HB1.out hb9)
  clear hb9
  go_wp2_with fail
  go_ret
  exact ⟨rfl, HB9.out⟩
 | false =>
  have hsz : siz e ≤ 300 := grt_siz hg
  rw [hg] at GR
  have MT := Lib.hid (fun W (hW : Below w.heap.size w W) => mtokens e so cap W (hG.keep hW) (hL.keep hW))
  have RT := Lib.hid (fun W (hW : Below w.heap.size w W) => rtokens e so cap W (by omega) (hL.1.keep hW))
  have MV := Lib.hid (fun W (hW : Below w.heap.size w W) => mvalidate e so cap W (hG.1.keep hW) (hL.keep hW))
  have RV := Lib.hid (fun W (hW : Below w.heap.size w W) => rvalidate e so cap W (by omega) (hL.1.keep hW))
  have hll : (gT e).length ≤ 1000000 := by
   have := body_len e
   unfold gT
   split
   ·omega
   ·simp
  clear hg hG hS hL
  go_enter Tryz.func4, Tryz.ntmps4
  go_wp2_with fail
  refine (GR.out _ hb2).mono ?_
  rintro r w1 ⟨rfl, hb1⟩
  have HB1 := Lib.hid (btr hb2 hb1)
  have a0 := keepc hb1 (show (w.alloc (.cells #[.int .i64 e.op, .int .i64 e.n, .string (str e.s), .slice so e.args.length cap] 27)).cell? ⟨w.heap.size, 0, none⟩ = some (.int .i64 e.op) by simp [go_sem])
  have a1 := keepc hb1 (show (w.alloc (.cells #[.int .i64 e.op, .int .i64 e.n, .string (str e.s), .slice so e.args.length cap] 27)).cell? ⟨w.heap.size, 1, none⟩ = some (.int .i64 e.n) by simp [go_sem])
  have a2 := keepc hb1 (show (w.alloc (.cells #[.int .i64 e.op, .int .i64 e.n, .string (str e.s), .slice so e.args.length cap] 27)).cell? ⟨w.heap.size, 2, none⟩ = some (.string (str e.s)) by simp [go_sem])
  have a3 := keepc hb1 (show (w.alloc (.cells #[.int .i64 e.op, .int .i64 e.n, .string (str e.s), .slice so e.args.length cap] 27)).cell? ⟨w.heap.size, 3, none⟩ = some (.slice so e.args.length cap) by simp [go_sem])
  clear hb1
  go_wp2_with fail
  refine (MT.out _ HB1.out).mono ?_
  rintro r w2 ⟨ao1, c1, rfl, _, hT1, hb⟩
  replace a0 := keepc hb a0
  replace a1 := keepc hb a1
  replace a2 := keepc hb a2
  replace a3 := keepc hb a3
  have HT1' := Lib.hid hT1
  have HB2 := Lib.hid (btr HB1.out hb)
  clear hb hT1
  go_wp2_with fail
  refine (RT.out _ HB2.out).mono ?_
  rintro r u ⟨ao2, c2, rfl, hT2, hb⟩
  replace a0 := keepc hb a0
  replace a1 := keepc hb a1
  replace a2 := keepc hb a2
  replace a3 := keepc hb a3
  have HT1 := Lib.hid (HT1'.out.keep hb)
  have HT2 := Lib.hid hT2
  have HU := Lib.hid (btr HB2.out hb)
  clear hb hT2 HT1'
  go_wp2_with fail
  refine wp_region_held_drew (S := (fun W => Below u.heap.size u W)) (by kernel_rfl) (bdr (bref _)) (fun hH0 => ?_)
  refine wpAnyH_take (i := 0) (oi := _) (v := ?_) rfl (by kernel_rfl) (by kernel_rfl) (by kernel_rfl) (fun _ _ _ h => h) (Or.inl ⟨?_, ?_⟩) hH0 ?_
  rotate_left
  ·kernel_rfl
  ·(intro W' hSw; have f0 := keepc hSw a0; have f1 := keepc hSw a1; have f2 := keepc hSw a2; have f3 := keepc hSw a3; go_simp; (try simp only [beq_self_eq_true, decide_true, if_true]); (try with_reducible rfl))
  (try simp only [List.getElem_toArray])
  (try simp only [List.getElem_cons_succ])
  (try simp only [List.getElem_cons_zero])
  (try simp only [Act.put])
  (try simp only [List.setIfInBounds_toArray])
  (try simp only [List.set_cons_succ])
  (try simp only [List.set_cons_zero])
  refine wpAnyH_take (i := 1) (oi := _) (v := ?_) rfl (by kernel_rfl) (by kernel_rfl) (by kernel_rfl) (fun _ _ _ h => h) (Or.inl ⟨?_, ?_⟩) hH0 ?_
  rotate_left
  ·kernel_rfl
  ·(intro W' hSw; have f0 := keepc hSw a0; have f1 := keepc hSw a1; have f2 := keepc hSw a2; have f3 := keepc hSw a3; go_simp; (try simp only [beq_self_eq_true, decide_true, if_true]); (try with_reducible rfl))
  (try simp only [List.getElem_toArray])
  (try simp only [List.getElem_cons_succ])
  (try simp only [List.getElem_cons_zero])
  (try simp only [Act.put])
  (try simp only [List.setIfInBounds_toArray])
  (try simp only [List.set_cons_succ])
  (try simp only [List.set_cons_zero])
  refine wpAnyH_take (i := 2) (oi := _) (v := ?_) rfl (by kernel_rfl) (by kernel_rfl) (by kernel_rfl) (fun _ _ _ h => h) (Or.inl ⟨?_, ?_⟩) hH0 ?_
  rotate_left
  ·kernel_rfl
  ·(intro W' hSw; have f0 := keepc hSw a0; have f1 := keepc hSw a1; have f2 := keepc hSw a2; have f3 := keepc hSw a3; go_simp; (try simp only [beq_self_eq_true, decide_true, if_true]); (try with_reducible rfl))
  (try simp only [List.getElem_toArray])
  (try simp only [List.getElem_cons_succ])
  (try simp only [List.getElem_cons_zero])
  (try simp only [Act.put])
  (try simp only [List.setIfInBounds_toArray])
  (try simp only [List.set_cons_succ])
  (try simp only [List.set_cons_zero])
  refine wpAnyH_take (i := 3) (oi := _) (v := ?_) rfl (by kernel_rfl) (by kernel_rfl) (by kernel_rfl) (fun _ _ _ h => h) (Or.inl ⟨?_, ?_⟩) hH0 ?_
  rotate_left
  ·kernel_rfl
  ·(intro W' hSw; have f0 := keepc hSw a0; have f1 := keepc hSw a1; have f2 := keepc hSw a2; have f3 := keepc hSw a3; go_simp; (try simp only [beq_self_eq_true, decide_true, if_true]); (try with_reducible rfl))
  (try simp only [List.getElem_toArray])
  (try simp only [List.getElem_cons_succ])
  (try simp only [List.getElem_cons_zero])
  (try simp only [Act.put])
  (try simp only [List.setIfInBounds_toArray])
  (try simp only [List.set_cons_succ])
  (try simp only [List.set_cons_zero])
  refine wpAnyH_take (i := 4) (oi := _) (v := ?_) rfl (by kernel_rfl) (by kernel_rfl) (by kernel_rfl) (fun _ _ _ h => h) (Or.inl ⟨?_, ?_⟩) hH0 ?_
  rotate_left
  ·kernel_rfl
  ·(intro W' hSw; have f0 := keepc hSw a0; have f1 := keepc hSw a1; have f2 := keepc hSw a2; have f3 := keepc hSw a3; go_simp; (try simp only [beq_self_eq_true, decide_true, if_true]); (try with_reducible rfl))
  (try simp only [List.getElem_toArray])
  (try simp only [List.getElem_cons_succ])
  (try simp only [List.getElem_cons_zero])
  (try simp only [Act.put])
  (try simp only [List.setIfInBounds_toArray])
  (try simp only [List.set_cons_succ])
  (try simp only [List.set_cons_zero])
  refine wpAnyH_take (i := 5) (oi := _) (v := ?_) rfl (by kernel_rfl) (by kernel_rfl) (by kernel_rfl) (fun _ _ _ h => h) (Or.inl ⟨?_, ?_⟩) hH0 ?_
  rotate_left
  ·kernel_rfl
  ·(intro W' hSw; have f0 := keepc hSw a0; have f1 := keepc hSw a1; have f2 := keepc hSw a2; have f3 := keepc hSw a3; go_simp; (try simp only [beq_self_eq_true, decide_true, if_true]); (try with_reducible rfl))
  (try simp only [List.getElem_toArray])
  (try simp only [List.getElem_cons_succ])
  (try simp only [List.getElem_cons_zero])
  (try simp only [Act.put])
  (try simp only [List.setIfInBounds_toArray])
  (try simp only [List.set_cons_succ])
  (try simp only [List.set_cons_zero])
  refine wpAnyH_ready (rs := [6]) (by kernel_rfl) (by simp) ?_
  refine AllReadyH.cons (o := _) rfl (fun K hK => ?_) AllReadyH.nil
  go_simp
  refine (rsameK ao1 ao2 (gT e) c1 c2 hll _ (HT1.out.keep hH0) (HT2.out.keep hH0)).mono ?_
  rintro r w1 ⟨rfl, hb1⟩
  refine hK.out _ _ (btr hH0 hb1) (fun hH1 => ?_)
  clear hK K
  (try simp only [List.getElem_toArray])
  (try simp only [List.getElem_cons_succ])
  (try simp only [List.getElem_cons_zero])
  (try simp only [Act.put])
  (try simp only [List.setIfInBounds_toArray])
  (try simp only [List.set_cons_succ])
  (try simp only [List.set_cons_zero])
  refine wpAnyH_take (i := 7) (oi := _) (v := ?_) rfl (by kernel_rfl) (by kernel_rfl) (by kernel_rfl) (fun _ _ _ h => h) (Or.inl ⟨?_, ?_⟩) hH1 ?_
  rotate_left
  ·kernel_rfl
  ·(intro W' hSw; have f0 := keepc hSw a0; have f1 := keepc hSw a1; have f2 := keepc hSw a2; have f3 := keepc hSw a3; go_simp; (try simp only [beq_self_eq_true, decide_true, if_true]); (try with_reducible rfl))
  (try simp only [List.getElem_toArray])
  (try simp only [List.getElem_cons_succ])
  (try simp only [List.getElem_cons_zero])
  (try simp only [Act.put])
  (try simp only [List.setIfInBounds_toArray])
  (try simp only [List.set_cons_succ])
  (try simp only [List.set_cons_zero])
  refine wpAnyH_take (i := 8) (oi := _) (v := ?_) rfl (by kernel_rfl) (by kernel_rfl) (by kernel_rfl) (fun _ _ _ h => h) (Or.inl ⟨?_, ?_⟩) hH1 ?_
  rotate_left
  ·kernel_rfl
  ·(intro W' hSw; have f0 := keepc hSw a0; have f1 := keepc hSw a1; have f2 := keepc hSw a2; have f3 := keepc hSw a3; go_simp; (try simp only [beq_self_eq_true, decide_true, if_true]); (try with_reducible rfl))
  (try simp only [List.getElem_toArray])
  (try simp only [List.getElem_cons_succ])
  (try simp only [List.getElem_cons_zero])
  (try simp only [Act.put])
  (try simp only [List.setIfInBounds_toArray])
  (try simp only [List.set_cons_succ])
  (try simp only [List.set_cons_zero])
  refine wpAnyH_take (i := 9) (oi := _) (v := ?_) rfl (by kernel_rfl) (by kernel_rfl) (by kernel_rfl) (fun _ _ _ h => h) (Or.inl ⟨?_, ?_⟩) hH1 ?_
  rotate_left
  ·kernel_rfl
  ·(intro W' hSw; have f0 := keepc hSw a0; have f1 := keepc hSw a1; have f2 := keepc hSw a2; have f3 := keepc hSw a3; go_simp; (try simp only [beq_self_eq_true, decide_true, if_true]); (try with_reducible rfl))
  (try simp only [List.getElem_toArray])
  (try simp only [List.getElem_cons_succ])
  (try simp only [List.getElem_cons_zero])
  (try simp only [Act.put])
  (try simp only [List.setIfInBounds_toArray])
  (try simp only [List.set_cons_succ])
  (try simp only [List.set_cons_zero])
  refine wpAnyH_take (i := 11) (oi := _) (v := ?_) rfl (by kernel_rfl) (by kernel_rfl) (by kernel_rfl) (fun _ _ _ h => h) (Or.inl ⟨?_, ?_⟩) hH1 ?_
  rotate_left
  ·kernel_rfl
  ·(intro W' hSw; have f0 := keepc hSw a0; have f1 := keepc hSw a1; have f2 := keepc hSw a2; have f3 := keepc hSw a3; go_simp; (try simp only [beq_self_eq_true, decide_true, if_true]); (try with_reducible rfl))
  (try simp only [List.getElem_toArray])
  (try simp only [List.getElem_cons_succ])
  (try simp only [List.getElem_cons_zero])
  (try simp only [Act.put])
  (try simp only [List.setIfInBounds_toArray])
  (try simp only [List.set_cons_succ])
  (try simp only [List.set_cons_zero])
  refine wpAnyH_ready (rs := [10]) (by kernel_rfl) (by simp) ?_
  refine AllReadyH.cons (o := _) rfl (fun K hK => ?_) AllReadyH.nil
  go_simp
  refine (MV.out _ (HU.out.trans (hH1.mono HU.out.size))).mono ?_
  rintro r w2 ⟨rfl, hb2⟩
  refine hK.out _ _ (btr hH1 hb2) (fun hH2 => ?_)
  clear hK K
  (try simp only [List.getElem_toArray])
  (try simp only [List.getElem_cons_succ])
  (try simp only [List.getElem_cons_zero])
  (try simp only [Act.put])
  (try simp only [List.setIfInBounds_toArray])
  (try simp only [List.set_cons_succ])
  (try simp only [List.set_cons_zero])
  refine wpAnyH_ready (rs := [12]) (by kernel_rfl) (by simp) ?_
  refine AllReadyH.cons (o := _) rfl (fun K hK => ?_) AllReadyH.nil
  go_simp
  refine (RV.out _ (HU.out.trans (hH2.mono HU.out.size))).mono ?_
  rintro r w3 ⟨rfl, hb3⟩
  refine hK.out _ _ (btr hH2 hb3) (fun hH3 => ?_)
  clear hK K
  (try simp only [List.getElem_toArray])
  (try simp only [List.getElem_cons_succ])
  (try simp only [List.getElem_cons_zero])
  (try simp only [Act.put])
  (try simp only [List.setIfInBounds_toArray])
  (try simp only [List.set_cons_succ])
  (try simp only [List.set_cons_zero])
  refine wpAnyH_take (i := 13) (oi := _) (v := ?_) rfl (by kernel_rfl) (by kernel_rfl) (by kernel_rfl) (fun _ _ _ h => h) (Or.inl ⟨?_, ?_⟩) hH3 ?_
  rotate_left
  ·kernel_rfl
  ·(intro W' hSw; have f0 := keepc hSw a0; have f1 := keepc hSw a1; have f2 := keepc hSw a2; have f3 := keepc hSw a3; go_simp; (try simp only [beq_self_eq_true, decide_true, if_true]); (try with_reducible rfl))
  (try simp only [List.getElem_toArray])
  (try simp only [List.getElem_cons_succ])
  (try simp only [List.getElem_cons_zero])
  (try simp only [Act.put])
  (try simp only [List.setIfInBounds_toArray])
  (try simp only [List.set_cons_succ])
  (try simp only [List.set_cons_zero])
  refine wpAnyH_take (i := 14) (oi := _) (v := ?_) rfl (by kernel_rfl) (by kernel_rfl) (by kernel_rfl) (fun _ _ _ h => h) (Or.inl ⟨?_, ?_⟩) hH3 ?_
  rotate_left
  ·kernel_rfl
  ·(intro W' hSw; have f0 := keepc hSw a0; have f1 := keepc hSw a1; have f2 := keepc hSw a2; have f3 := keepc hSw a3; go_simp; (try simp only [beq_self_eq_true, decide_true, if_true]); (try with_reducible rfl))
  (try simp only [List.getElem_toArray])
  (try simp only [List.getElem_cons_succ])
  (try simp only [List.getElem_cons_zero])
  (try simp only [Act.put])
  (try simp only [List.setIfInBounds_toArray])
  (try simp only [List.set_cons_succ])
  (try simp only [List.set_cons_zero])
  refine wpAnyH_take (i := 15) (oi := _) (v := ?_) rfl (by kernel_rfl) (by kernel_rfl) (by kernel_rfl) (fun _ _ _ h => h) (Or.inl ⟨?_, ?_⟩) hH3 ?_
  rotate_left
  ·kernel_rfl
  ·(intro W' hSw; have f0 := keepc hSw a0; have f1 := keepc hSw a1; have f2 := keepc hSw a2; have f3 := keepc hSw a3; go_simp; (try simp only [beq_self_eq_true, decide_true, if_true]); (try with_reducible rfl))
  (try simp only [List.getElem_toArray])
  (try simp only [List.getElem_cons_succ])
  (try simp only [List.getElem_cons_zero])
  (try simp only [Act.put])
  (try simp only [List.setIfInBounds_toArray])
  (try simp only [List.set_cons_succ])
  (try simp only [List.set_cons_zero])
  refine wpAnyH_ready (rs := [16]) (by kernel_rfl) (by simp) ?_
  refine AllReadyH.cons (o := _) rfl (fun K hK => ?_) AllReadyH.nil
  go_simp
  refine (LV.out _ (HU.out.trans (hH3.mono HU.out.size))).mono ?_
  rintro r w4 ⟨rfl, hb4⟩
  refine hK.out _ _ (btr hH3 hb4) (fun hH4 => ?_)
  clear hK K
  (try simp only [List.getElem_toArray])
  (try simp only [List.getElem_cons_succ])
  (try simp only [List.getElem_cons_zero])
  (try simp only [Act.put])
  (try simp only [List.setIfInBounds_toArray])
  (try simp only [List.set_cons_succ])
  (try simp only [List.set_cons_zero])
  refine wpAnyH_take (i := 17) (oi := _) (v := ?_) rfl (by kernel_rfl) (by kernel_rfl) (by kernel_rfl) (fun _ _ _ h => h) (Or.inl ⟨?_, ?_⟩) hH4 ?_
  rotate_left
  ·kernel_rfl
  ·(intro W' hSw; have f0 := keepc hSw a0; have f1 := keepc hSw a1; have f2 := keepc hSw a2; have f3 := keepc hSw a3; go_simp; (try simp only [beq_self_eq_true, decide_true, if_true]); (try with_reducible rfl))
  (try simp only [List.getElem_toArray])
  (try simp only [List.getElem_cons_succ])
  (try simp only [List.getElem_cons_zero])
  (try simp only [Act.put])
  (try simp only [List.setIfInBounds_toArray])
  (try simp only [List.set_cons_succ])
  (try simp only [List.set_cons_zero])
  refine wpAnyH_take (i := 18) (oi := _) (v := ?_) rfl (by kernel_rfl) (by kernel_rfl) (by kernel_rfl) (fun _ _ _ h => h) (Or.inl ⟨?_, ?_⟩) hH4 ?_
  rotate_left
  ·kernel_rfl
  ·(intro W' hSw; have f0 := keepc hSw a0; have f1 := keepc hSw a1; have f2 := keepc hSw a2; have f3 := keepc hSw a3; go_simp; (try simp only [beq_self_eq_true, decide_true, if_true]); (try with_reducible rfl))
  (try simp only [List.getElem_toArray])
  (try simp only [List.getElem_cons_succ])
  (try simp only [List.getElem_cons_zero])
  (try simp only [Act.put])
  (try simp only [List.setIfInBounds_toArray])
  (try simp only [List.set_cons_succ])
  (try simp only [List.set_cons_zero])
  refine wpAnyH_done (by kernel_rfl) ?_ _
  have HF := Lib.hid hH4
  go_wp2_with fail
  go_ret
  exact ⟨rfl, HU.out.trans (HF.out.mono HU.out.size)⟩
end Go.Proofs.YtplkphihmfhciaaGreatDoor
