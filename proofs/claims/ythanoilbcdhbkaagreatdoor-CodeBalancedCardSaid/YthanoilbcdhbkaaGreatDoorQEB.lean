/-
  The document's Same, Operands, the greatest N, Rank.
-/
import Derived.Test.YthanoilbcdhbkaaGreatDoorQEA
namespace Go.Proofs.YthanoilbcdhbkaaGreatDoor
open Go Go.RowKit Go.Lib WM TM EM

noncomputable def same (a b : Ex) : Bool := @decide (a = b) (Classical.propDecidable _)
theorem same_yes {a b : Ex} (h : a = b) : same a b = true := by unfold same; exact @decide_eq_true _ (Classical.propDecidable _) h
theorem same_no {a b : Ex} (h : a ≠ b) : same a b = false := by unfold same; exact @decide_eq_false _ (Classical.propDecidable _) h
theorem toList_str (s : List UInt8) : (str s).toList = s := by rw [toList_data, str_list]
theorem str_ne {x y : List UInt8} (h : x ≠ y) : ((str x).toList == (str y).toList) = false := by
 rw [toList_str, toList_str]
 simpa using h
theorem take_gx {α : Type} (d : α) (l : List α) (k : Nat) (h : k < l.length) : l.take (k + 1) = l.take k ++ [l.getD k d] := by
 rw [List.take_succ_eq_append_getElem h]; simp [List.getD, h]
theorem take_ne' (l m : List Ex) (k : Nat) (hne : l.getD k E0 ≠ m.getD k E0) : l ≠ m := by
 intro e; subst e; exact hne rfl
theorem take_all_eq {l m : List Ex} (hl : l.length = m.length) (h : l.take l.length = m.take l.length) : l = m := by
 rw [List.take_length] at h
 rw [hl, List.take_length] at h
 exact h

set_option maxRecDepth 100000 in
set_option maxHeartbeats 4000000 in
theorem rsame : ∀ (a : Ex) (b : Ex) (so so2 : Option Addr) (cap cap2 : Nat) (w : World), siz a ≤ 100000 → ExprsAt so a.args w → ExprsAt so2 b.args w →
  Calls Tryz.prog 26 #[.agg #[.int .i64 a.op, .int .i64 a.n, .string (str a.s), .slice so a.args.length cap], .agg #[.int .i64 b.op, .int .i64 b.n, .string (str b.s), .slice so2 b.args.length cap2]] w
   fun r w' => r = .returned (.bool (same a b)) ∧ Below w.heap.size w w' := by
 refine ex_ind _ fun a ih b so so2 cap cap2 w hm h h2 => ?_
 obtain ⟨o, n, s, l⟩ := a
 obtain ⟨o2, n2, s2, m⟩ := b
 simp only [Ex.op, Ex.n, Ex.s, Ex.args] at h h2 ⊢
 have hsz := sizs_len l
 rw [siz_mk] at hm
 have IH : Hid (∀ x ∈ l, ∀ (b : Ex) (so so2 : Option Addr) (cap cap2 : Nat) (w : World), ExprsAt so x.args w → ExprsAt so2 b.args w →
  Calls Tryz.prog 26 #[.agg #[.int .i64 x.op, .int .i64 x.n, .string (str x.s), .slice so x.args.length cap], .agg #[.int .i64 b.op, .int .i64 b.n, .string (str b.s), .slice so2 b.args.length cap2]] w
   fun r w' => r = .returned (.bool (same x b)) ∧ Below w.heap.size w w') := Lib.hid fun x hx b so so2 cap cap2 w => ih x hx b so so2 cap cap2 w (by have := siz_mem hx; omega)
 have HA := Lib.hid h
 have HB2 := Lib.hid h2
 clear ih h h2
 by_cases ho : o = o2
 rotate_left
 ·rw [same_no (fun e => ho (by injection e))]
  go_enter Tryz.func26, Tryz.ntmps26
  go_wp2_with fail
  go_ret
  exact ⟨rfl, by repeat (first | exact bref _ | refine bdr ?_ | refine bal ?_ _)⟩
 subst ho
 by_cases hn : n = n2
 rotate_left
 ·rw [same_no (fun e => hn (by injection e))]
  go_enter Tryz.func26, Tryz.ntmps26
  go_wp2_with fail
  go_ret
  exact ⟨rfl, by repeat (first | exact bref _ | refine bdr ?_ | refine bal ?_ _)⟩
 subst hn
 by_cases hs : s = s2
 rotate_left
 ·rw [same_no (fun e => hs (by injection e))]
  have hs1 := str_ne hs
  go_enter Tryz.func26, Tryz.ntmps26
  go_wp2_with fail
  go_ret
  exact ⟨rfl, by repeat (first | exact bref _ | refine bdr ?_ | refine bal ?_ _)⟩
 subst hs
 by_cases hl : l.length = m.length
 rotate_left
 ·rw [same_no (fun e => hl (by injection e with _ _ _ e; rw [e]))]
  obtain ⟨k, hk⟩ : ∃ k, l.length = k := ⟨_, rfl⟩
  obtain ⟨k2, hk2⟩ : ∃ k, m.length = k := ⟨_, rfl⟩
  rw [hk, hk2] at hl ⊢
  have hlz : ¬ (k : Int) = (k2 : Int) := by omega
  clear hk hk2 hsz
  go_enter Tryz.func26, Tryz.ntmps26
  go_wp2_with fail
  go_ret
  exact ⟨rfl, by repeat (first | exact bref _ | refine bdr ?_ | refine bal ?_ _)⟩
 have HL := Lib.hid hl
 obtain ⟨N, hN⟩ : ∃ k, l.length = k := ⟨_, rfl⟩
 obtain ⟨X, hX⟩ : ∃ X, str s = X := ⟨_, rfl⟩
 obtain ⟨R, hR⟩ : ∃ R, same (.mk o n s l) (.mk o n s m) = R := ⟨_, rfl⟩
 have HR := Lib.hid hR
 have HN := Lib.hid hN
 rw [← hl, hN, hX, hR]
 rw [hN] at hsz
 have hN1 : N ≤ 100000 := by omega
 clear hl hN hX hR hm hsz
 go_enter Tryz.func26, Tryz.ntmps26
 go_wp2_with fail
 go_loopw [5] (fun i wr => ∃ (k : Nat), k ≤ N ∧ i = .int .i64 k ∧ l.take k = m.take k ∧ wr.cell? ⟨w.heap.size, 3, none⟩ = some (.slice so N cap) ∧ wr.cell? ⟨w.heap.size + 1, 3, none⟩ = some (.slice so2 N cap2) ∧ Below w.heap.size w wr) (fun i _ => N - (RowKit.intOf i).toNat)
 case atStart => exact ⟨0, by omega, rfl, rfl, by simp [go_sem], by simp [go_sem], by (repeat (first | exact bref _ | refine bdr ?_ | refine bal ?_ _))⟩
 case round =>
  obtain ⟨k, hk, rfl, hq, hc, hc2, hB⟩ := hrel
  have HQ := Lib.hid hq
  have HB := Lib.hid hB
  clear hq hB
  by_cases hlt : k < N
  ·have hkz : (k : Int) < (N : Int) := by omega
   have g1 : k < l.length := by rw [HN.out]; exact hlt
   have g2 : k < m.length := by rw [← HL.out]; exact g1
   obtain ⟨b, off, so3, cap3, rfl, hb, c0, c1, c2, c3, hs, _⟩ := (HA.out.keep HB.out).at k g1
   obtain ⟨b4, off4, so4, cap4, rfl, hb4, d0, d1, d2, d3, hs4, _⟩ := (HB2.out.keep HB.out).at k g2
   have C0 := Lib.hid (fun W (hW : Below wr.heap.size wr W) => IH.out (l.getD k E0) (getD_mem'' _ _ _ g1) (m.getD k E0) so3 so4 cap3 cap4 W (hs.keep hW) (hs4.keep hW))
   have ht := take_gx E0 l k g1
   have ht2 := take_gx E0 m k g2
   have hne := take_ne' l m k
   obtain ⟨x, hx⟩ : ∃ x, l.getD k E0 = x := ⟨_, rfl⟩
   obtain ⟨y, hy⟩ : ∃ x, m.getD k E0 = x := ⟨_, rfl⟩
   rw [hx] at c0 c1 c2 c3 ht C0 hne
   rw [hy] at d0 d1 d2 d3 ht2 C0 hne
   by_cases hxy : x = y
   ·rw [same_yes hxy] at C0
    have HV : Hid (l.take (k + 1) = m.take (k + 1)) := Lib.hid (by rw [ht, ht2, HQ.out, hxy])
    clear hs hs4 hx hy ht ht2 hxy g1 g2 hne
    go_wp2_with fail
    refine wp_region_held_drew (S := (fun W => Below wr.heap.size wr W)) (by kernel_rfl) (bdr (bref _)) (fun hH0 => ?_)
    refine wpAnyH_take (i := 0) (oi := _) (v := ?_) rfl (by kernel_rfl) (by kernel_rfl) (by kernel_rfl) (fun _ _ _ h => h) (Or.inl ⟨?_, ?_⟩) hH0 ?_
    rotate_left
    ·kernel_rfl
    ·(intro W' hSw; have f0 := keepc hSw hc; have f1 := keepc hSw hc2; have f2 := keepc hSw c0; have f3 := keepc hSw c1; have f4 := keepc hSw c2; have f5 := keepc hSw c3; have f6 := keepc hSw d0; have f7 := keepc hSw d1; have f8 := keepc hSw d2; have f9 := keepc hSw d3; go_simp; (try with_reducible rfl))
    (try simp only [List.getElem_toArray])
    (try simp only [List.getElem_cons_succ])
    (try simp only [List.getElem_cons_zero])
    (try simp only [Act.put])
    (try simp only [List.setIfInBounds_toArray])
    (try simp only [List.set_cons_succ])
    (try simp only [List.set_cons_zero])
    refine wpAnyH_take (i := 1) (oi := _) (v := ?_) rfl (by kernel_rfl) (by kernel_rfl) (by kernel_rfl) (fun _ _ _ h => h) (Or.inl ⟨?_, ?_⟩) hH0 ?_
    rotate_left
    ·kernel_rfl
    ·(intro W' hSw; have f0 := keepc hSw hc; have f1 := keepc hSw hc2; have f2 := keepc hSw c0; have f3 := keepc hSw c1; have f4 := keepc hSw c2; have f5 := keepc hSw c3; have f6 := keepc hSw d0; have f7 := keepc hSw d1; have f8 := keepc hSw d2; have f9 := keepc hSw d3; go_simp; (try with_reducible rfl))
    (try simp only [List.getElem_toArray])
    (try simp only [List.getElem_cons_succ])
    (try simp only [List.getElem_cons_zero])
    (try simp only [Act.put])
    (try simp only [List.setIfInBounds_toArray])
    (try simp only [List.set_cons_succ])
    (try simp only [List.set_cons_zero])
    refine wpAnyH_take (i := 2) (oi := _) (v := ?_) rfl (by kernel_rfl) (by kernel_rfl) (by kernel_rfl) (fun _ _ _ h => h) (Or.inl ⟨?_, ?_⟩) hH0 ?_
    rotate_left
    ·kernel_rfl
    ·(intro W' hSw; have f0 := keepc hSw hc; have f1 := keepc hSw hc2; have f2 := keepc hSw c0; have f3 := keepc hSw c1; have f4 := keepc hSw c2; have f5 := keepc hSw c3; have f6 := keepc hSw d0; have f7 := keepc hSw d1; have f8 := keepc hSw d2; have f9 := keepc hSw d3; go_simp; (try with_reducible rfl))
    (try simp only [List.getElem_toArray])
    (try simp only [List.getElem_cons_succ])
    (try simp only [List.getElem_cons_zero])
    (try simp only [Act.put])
    (try simp only [List.setIfInBounds_toArray])
    (try simp only [List.set_cons_succ])
    (try simp only [List.set_cons_zero])
    refine wpAnyH_take (i := 3) (oi := _) (v := ?_) rfl (by kernel_rfl) (by kernel_rfl) (by kernel_rfl) (fun _ _ _ h => h) (Or.inl ⟨?_, ?_⟩) hH0 ?_
    rotate_left
    ·kernel_rfl
    ·(intro W' hSw; have f0 := keepc hSw hc; have f1 := keepc hSw hc2; have f2 := keepc hSw c0; have f3 := keepc hSw c1; have f4 := keepc hSw c2; have f5 := keepc hSw c3; have f6 := keepc hSw d0; have f7 := keepc hSw d1; have f8 := keepc hSw d2; have f9 := keepc hSw d3; go_simp; (try with_reducible rfl))
    (try simp only [List.getElem_toArray])
    (try simp only [List.getElem_cons_succ])
    (try simp only [List.getElem_cons_zero])
    (try simp only [Act.put])
    (try simp only [List.setIfInBounds_toArray])
    (try simp only [List.set_cons_succ])
    (try simp only [List.set_cons_zero])
    refine wpAnyH_take (i := 4) (oi := _) (v := ?_) rfl (by kernel_rfl) (by kernel_rfl) (by kernel_rfl) (fun _ _ _ h => h) (Or.inl ⟨?_, ?_⟩) hH0 ?_
    rotate_left
    ·kernel_rfl
    ·(intro W' hSw; have f0 := keepc hSw hc; have f1 := keepc hSw hc2; have f2 := keepc hSw c0; have f3 := keepc hSw c1; have f4 := keepc hSw c2; have f5 := keepc hSw c3; have f6 := keepc hSw d0; have f7 := keepc hSw d1; have f8 := keepc hSw d2; have f9 := keepc hSw d3; go_simp; (try with_reducible rfl))
    (try simp only [List.getElem_toArray])
    (try simp only [List.getElem_cons_succ])
    (try simp only [List.getElem_cons_zero])
    (try simp only [Act.put])
    (try simp only [List.setIfInBounds_toArray])
    (try simp only [List.set_cons_succ])
    (try simp only [List.set_cons_zero])
    refine wpAnyH_take (i := 5) (oi := _) (v := ?_) rfl (by kernel_rfl) (by kernel_rfl) (by kernel_rfl) (fun _ _ _ h => h) (Or.inl ⟨?_, ?_⟩) hH0 ?_
    rotate_left
    ·kernel_rfl
    ·(intro W' hSw; have f0 := keepc hSw hc; have f1 := keepc hSw hc2; have f2 := keepc hSw c0; have f3 := keepc hSw c1; have f4 := keepc hSw c2; have f5 := keepc hSw c3; have f6 := keepc hSw d0; have f7 := keepc hSw d1; have f8 := keepc hSw d2; have f9 := keepc hSw d3; go_simp; (try with_reducible rfl))
    (try simp only [List.getElem_toArray])
    (try simp only [List.getElem_cons_succ])
    (try simp only [List.getElem_cons_zero])
    (try simp only [Act.put])
    (try simp only [List.setIfInBounds_toArray])
    (try simp only [List.set_cons_succ])
    (try simp only [List.set_cons_zero])
    refine wpAnyH_take (i := 6) (oi := _) (v := ?_) rfl (by kernel_rfl) (by kernel_rfl) (by kernel_rfl) (fun _ _ _ h => h) (Or.inl ⟨?_, ?_⟩) hH0 ?_
    rotate_left
    ·kernel_rfl
    ·(intro W' hSw; have f0 := keepc hSw hc; have f1 := keepc hSw hc2; have f2 := keepc hSw c0; have f3 := keepc hSw c1; have f4 := keepc hSw c2; have f5 := keepc hSw c3; have f6 := keepc hSw d0; have f7 := keepc hSw d1; have f8 := keepc hSw d2; have f9 := keepc hSw d3; go_simp; (try with_reducible rfl))
    (try simp only [List.getElem_toArray])
    (try simp only [List.getElem_cons_succ])
    (try simp only [List.getElem_cons_zero])
    (try simp only [Act.put])
    (try simp only [List.setIfInBounds_toArray])
    (try simp only [List.set_cons_succ])
    (try simp only [List.set_cons_zero])
    refine wpAnyH_take (i := 7) (oi := _) (v := ?_) rfl (by kernel_rfl) (by kernel_rfl) (by kernel_rfl) (fun _ _ _ h => h) (Or.inl ⟨?_, ?_⟩) hH0 ?_
    rotate_left
    ·kernel_rfl
    ·(intro W' hSw; have f0 := keepc hSw hc; have f1 := keepc hSw hc2; have f2 := keepc hSw c0; have f3 := keepc hSw c1; have f4 := keepc hSw c2; have f5 := keepc hSw c3; have f6 := keepc hSw d0; have f7 := keepc hSw d1; have f8 := keepc hSw d2; have f9 := keepc hSw d3; go_simp; (try with_reducible rfl))
    (try simp only [List.getElem_toArray])
    (try simp only [List.getElem_cons_succ])
    (try simp only [List.getElem_cons_zero])
    (try simp only [Act.put])
    (try simp only [List.setIfInBounds_toArray])
    (try simp only [List.set_cons_succ])
    (try simp only [List.set_cons_zero])
    refine wpAnyH_take (i := 8) (oi := _) (v := ?_) rfl (by kernel_rfl) (by kernel_rfl) (by kernel_rfl) (fun _ _ _ h => h) (Or.inl ⟨?_, ?_⟩) hH0 ?_
    rotate_left
    ·kernel_rfl
    ·(intro W' hSw; have f0 := keepc hSw hc; have f1 := keepc hSw hc2; have f2 := keepc hSw c0; have f3 := keepc hSw c1; have f4 := keepc hSw c2; have f5 := keepc hSw c3; have f6 := keepc hSw d0; have f7 := keepc hSw d1; have f8 := keepc hSw d2; have f9 := keepc hSw d3; go_simp; (try with_reducible rfl))
    (try simp only [List.getElem_toArray])
    (try simp only [List.getElem_cons_succ])
    (try simp only [List.getElem_cons_zero])
    (try simp only [Act.put])
    (try simp only [List.setIfInBounds_toArray])
    (try simp only [List.set_cons_succ])
    (try simp only [List.set_cons_zero])
    refine wpAnyH_take (i := 9) (oi := _) (v := ?_) rfl (by kernel_rfl) (by kernel_rfl) (by kernel_rfl) (fun _ _ _ h => h) (Or.inl ⟨?_, ?_⟩) hH0 ?_
    rotate_left
    ·kernel_rfl
    ·(intro W' hSw; have f0 := keepc hSw hc; have f1 := keepc hSw hc2; have f2 := keepc hSw c0; have f3 := keepc hSw c1; have f4 := keepc hSw c2; have f5 := keepc hSw c3; have f6 := keepc hSw d0; have f7 := keepc hSw d1; have f8 := keepc hSw d2; have f9 := keepc hSw d3; go_simp; (try with_reducible rfl))
    (try simp only [List.getElem_toArray])
    (try simp only [List.getElem_cons_succ])
    (try simp only [List.getElem_cons_zero])
    (try simp only [Act.put])
    (try simp only [List.setIfInBounds_toArray])
    (try simp only [List.set_cons_succ])
    (try simp only [List.set_cons_zero])
    refine wpAnyH_ready (rs := [10]) (by kernel_rfl) (by simp) ?_
    refine AllReadyH.cons (o := _) rfl (fun K hK => ?_) AllReadyH.nil
    go_simp
    refine (C0.out _ hH0).mono ?_
    rintro r w1 ⟨rfl, hb1⟩
    refine hK.out _ _ (btr hH0 hb1) (fun hH1 => ?_)
    clear hK K
    (try simp only [List.getElem_toArray])
    (try simp only [List.getElem_cons_succ])
    (try simp only [List.getElem_cons_zero])
    (try simp only [Act.put])
    (try simp only [List.setIfInBounds_toArray])
    (try simp only [List.set_cons_succ])
    (try simp only [List.set_cons_zero])
    refine wpAnyH_take (i := 11) (oi := _) (v := ?_) rfl (by kernel_rfl) (by kernel_rfl) (by kernel_rfl) (fun _ _ _ h => h) (Or.inl ⟨?_, ?_⟩) hH1 ?_
    rotate_left
    ·kernel_rfl
    ·(intro W' hSw; have f0 := keepc hSw hc; have f1 := keepc hSw hc2; have f2 := keepc hSw c0; have f3 := keepc hSw c1; have f4 := keepc hSw c2; have f5 := keepc hSw c3; have f6 := keepc hSw d0; have f7 := keepc hSw d1; have f8 := keepc hSw d2; have f9 := keepc hSw d3; go_simp; (try with_reducible rfl))
    (try simp only [List.getElem_toArray])
    (try simp only [List.getElem_cons_succ])
    (try simp only [List.getElem_cons_zero])
    (try simp only [Act.put])
    (try simp only [List.setIfInBounds_toArray])
    (try simp only [List.set_cons_succ])
    (try simp only [List.set_cons_zero])
    refine wpAnyH_done (by kernel_rfl) ?_ _
    go_wp2_with fail
    go_roundw
    case rel => exact ⟨k + 1, by omega, by go_num, HV.out, keepc hH1 hc, keepc hH1 hc2, btr HB.out hH1⟩
    case measure => simp [RowKit.intOf]; omega
   ·rw [same_no hxy] at C0
    have HRf : Hid (R = false) := Lib.hid (by
     rw [← HR.out]
     refine same_no fun e => hne hxy ?_
     injection e with _ _ _ e)
    clear hs hs4 hx hy ht ht2 hxy g1 g2 hne
    go_wp2_with fail
    refine wp_region_held_drew (S := (fun W => Below wr.heap.size wr W)) (by kernel_rfl) (bdr (bref _)) (fun hH0 => ?_)
    refine wpAnyH_take (i := 0) (oi := _) (v := ?_) rfl (by kernel_rfl) (by kernel_rfl) (by kernel_rfl) (fun _ _ _ h => h) (Or.inl ⟨?_, ?_⟩) hH0 ?_
    rotate_left
    ·kernel_rfl
    ·(intro W' hSw; have f0 := keepc hSw hc; have f1 := keepc hSw hc2; have f2 := keepc hSw c0; have f3 := keepc hSw c1; have f4 := keepc hSw c2; have f5 := keepc hSw c3; have f6 := keepc hSw d0; have f7 := keepc hSw d1; have f8 := keepc hSw d2; have f9 := keepc hSw d3; go_simp; (try with_reducible rfl))
    (try simp only [List.getElem_toArray])
    (try simp only [List.getElem_cons_succ])
    (try simp only [List.getElem_cons_zero])
    (try simp only [Act.put])
    (try simp only [List.setIfInBounds_toArray])
    (try simp only [List.set_cons_succ])
    (try simp only [List.set_cons_zero])
    refine wpAnyH_take (i := 1) (oi := _) (v := ?_) rfl (by kernel_rfl) (by kernel_rfl) (by kernel_rfl) (fun _ _ _ h => h) (Or.inl ⟨?_, ?_⟩) hH0 ?_
    rotate_left
    ·kernel_rfl
    ·(intro W' hSw; have f0 := keepc hSw hc; have f1 := keepc hSw hc2; have f2 := keepc hSw c0; have f3 := keepc hSw c1; have f4 := keepc hSw c2; have f5 := keepc hSw c3; have f6 := keepc hSw d0; have f7 := keepc hSw d1; have f8 := keepc hSw d2; have f9 := keepc hSw d3; go_simp; (try with_reducible rfl))
    (try simp only [List.getElem_toArray])
    (try simp only [List.getElem_cons_succ])
    (try simp only [List.getElem_cons_zero])
    (try simp only [Act.put])
    (try simp only [List.setIfInBounds_toArray])
    (try simp only [List.set_cons_succ])
    (try simp only [List.set_cons_zero])
    refine wpAnyH_take (i := 2) (oi := _) (v := ?_) rfl (by kernel_rfl) (by kernel_rfl) (by kernel_rfl) (fun _ _ _ h => h) (Or.inl ⟨?_, ?_⟩) hH0 ?_
    rotate_left
    ·kernel_rfl
    ·(intro W' hSw; have f0 := keepc hSw hc; have f1 := keepc hSw hc2; have f2 := keepc hSw c0; have f3 := keepc hSw c1; have f4 := keepc hSw c2; have f5 := keepc hSw c3; have f6 := keepc hSw d0; have f7 := keepc hSw d1; have f8 := keepc hSw d2; have f9 := keepc hSw d3; go_simp; (try with_reducible rfl))
    (try simp only [List.getElem_toArray])
    (try simp only [List.getElem_cons_succ])
    (try simp only [List.getElem_cons_zero])
    (try simp only [Act.put])
    (try simp only [List.setIfInBounds_toArray])
    (try simp only [List.set_cons_succ])
    (try simp only [List.set_cons_zero])
    refine wpAnyH_take (i := 3) (oi := _) (v := ?_) rfl (by kernel_rfl) (by kernel_rfl) (by kernel_rfl) (fun _ _ _ h => h) (Or.inl ⟨?_, ?_⟩) hH0 ?_
    rotate_left
    ·kernel_rfl
    ·(intro W' hSw; have f0 := keepc hSw hc; have f1 := keepc hSw hc2; have f2 := keepc hSw c0; have f3 := keepc hSw c1; have f4 := keepc hSw c2; have f5 := keepc hSw c3; have f6 := keepc hSw d0; have f7 := keepc hSw d1; have f8 := keepc hSw d2; have f9 := keepc hSw d3; go_simp; (try with_reducible rfl))
    (try simp only [List.getElem_toArray])
    (try simp only [List.getElem_cons_succ])
    (try simp only [List.getElem_cons_zero])
    (try simp only [Act.put])
    (try simp only [List.setIfInBounds_toArray])
    (try simp only [List.set_cons_succ])
    (try simp only [List.set_cons_zero])
    refine wpAnyH_take (i := 4) (oi := _) (v := ?_) rfl (by kernel_rfl) (by kernel_rfl) (by kernel_rfl) (fun _ _ _ h => h) (Or.inl ⟨?_, ?_⟩) hH0 ?_
    rotate_left
    ·kernel_rfl
    ·(intro W' hSw; have f0 := keepc hSw hc; have f1 := keepc hSw hc2; have f2 := keepc hSw c0; have f3 := keepc hSw c1; have f4 := keepc hSw c2; have f5 := keepc hSw c3; have f6 := keepc hSw d0; have f7 := keepc hSw d1; have f8 := keepc hSw d2; have f9 := keepc hSw d3; go_simp; (try with_reducible rfl))
    (try simp only [List.getElem_toArray])
    (try simp only [List.getElem_cons_succ])
    (try simp only [List.getElem_cons_zero])
    (try simp only [Act.put])
    (try simp only [List.setIfInBounds_toArray])
    (try simp only [List.set_cons_succ])
    (try simp only [List.set_cons_zero])
    refine wpAnyH_take (i := 5) (oi := _) (v := ?_) rfl (by kernel_rfl) (by kernel_rfl) (by kernel_rfl) (fun _ _ _ h => h) (Or.inl ⟨?_, ?_⟩) hH0 ?_
    rotate_left
    ·kernel_rfl
    ·(intro W' hSw; have f0 := keepc hSw hc; have f1 := keepc hSw hc2; have f2 := keepc hSw c0; have f3 := keepc hSw c1; have f4 := keepc hSw c2; have f5 := keepc hSw c3; have f6 := keepc hSw d0; have f7 := keepc hSw d1; have f8 := keepc hSw d2; have f9 := keepc hSw d3; go_simp; (try with_reducible rfl))
    (try simp only [List.getElem_toArray])
    (try simp only [List.getElem_cons_succ])
    (try simp only [List.getElem_cons_zero])
    (try simp only [Act.put])
    (try simp only [List.setIfInBounds_toArray])
    (try simp only [List.set_cons_succ])
    (try simp only [List.set_cons_zero])
    refine wpAnyH_take (i := 6) (oi := _) (v := ?_) rfl (by kernel_rfl) (by kernel_rfl) (by kernel_rfl) (fun _ _ _ h => h) (Or.inl ⟨?_, ?_⟩) hH0 ?_
    rotate_left
    ·kernel_rfl
    ·(intro W' hSw; have f0 := keepc hSw hc; have f1 := keepc hSw hc2; have f2 := keepc hSw c0; have f3 := keepc hSw c1; have f4 := keepc hSw c2; have f5 := keepc hSw c3; have f6 := keepc hSw d0; have f7 := keepc hSw d1; have f8 := keepc hSw d2; have f9 := keepc hSw d3; go_simp; (try with_reducible rfl))
    (try simp only [List.getElem_toArray])
    (try simp only [List.getElem_cons_succ])
    (try simp only [List.getElem_cons_zero])
    (try simp only [Act.put])
    (try simp only [List.setIfInBounds_toArray])
    (try simp only [List.set_cons_succ])
    (try simp only [List.set_cons_zero])
    refine wpAnyH_take (i := 7) (oi := _) (v := ?_) rfl (by kernel_rfl) (by kernel_rfl) (by kernel_rfl) (fun _ _ _ h => h) (Or.inl ⟨?_, ?_⟩) hH0 ?_
    rotate_left
    ·kernel_rfl
    ·(intro W' hSw; have f0 := keepc hSw hc; have f1 := keepc hSw hc2; have f2 := keepc hSw c0; have f3 := keepc hSw c1; have f4 := keepc hSw c2; have f5 := keepc hSw c3; have f6 := keepc hSw d0; have f7 := keepc hSw d1; have f8 := keepc hSw d2; have f9 := keepc hSw d3; go_simp; (try with_reducible rfl))
    (try simp only [List.getElem_toArray])
    (try simp only [List.getElem_cons_succ])
    (try simp only [List.getElem_cons_zero])
    (try simp only [Act.put])
    (try simp only [List.setIfInBounds_toArray])
    (try simp only [List.set_cons_succ])
    (try simp only [List.set_cons_zero])
    refine wpAnyH_take (i := 8) (oi := _) (v := ?_) rfl (by kernel_rfl) (by kernel_rfl) (by kernel_rfl) (fun _ _ _ h => h) (Or.inl ⟨?_, ?_⟩) hH0 ?_
    rotate_left
    ·kernel_rfl
    ·(intro W' hSw; have f0 := keepc hSw hc; have f1 := keepc hSw hc2; have f2 := keepc hSw c0; have f3 := keepc hSw c1; have f4 := keepc hSw c2; have f5 := keepc hSw c3; have f6 := keepc hSw d0; have f7 := keepc hSw d1; have f8 := keepc hSw d2; have f9 := keepc hSw d3; go_simp; (try with_reducible rfl))
    (try simp only [List.getElem_toArray])
    (try simp only [List.getElem_cons_succ])
    (try simp only [List.getElem_cons_zero])
    (try simp only [Act.put])
    (try simp only [List.setIfInBounds_toArray])
    (try simp only [List.set_cons_succ])
    (try simp only [List.set_cons_zero])
    refine wpAnyH_take (i := 9) (oi := _) (v := ?_) rfl (by kernel_rfl) (by kernel_rfl) (by kernel_rfl) (fun _ _ _ h => h) (Or.inl ⟨?_, ?_⟩) hH0 ?_
    rotate_left
    ·kernel_rfl
    ·(intro W' hSw; have f0 := keepc hSw hc; have f1 := keepc hSw hc2; have f2 := keepc hSw c0; have f3 := keepc hSw c1; have f4 := keepc hSw c2; have f5 := keepc hSw c3; have f6 := keepc hSw d0; have f7 := keepc hSw d1; have f8 := keepc hSw d2; have f9 := keepc hSw d3; go_simp; (try with_reducible rfl))
    (try simp only [List.getElem_toArray])
    (try simp only [List.getElem_cons_succ])
    (try simp only [List.getElem_cons_zero])
    (try simp only [Act.put])
    (try simp only [List.setIfInBounds_toArray])
    (try simp only [List.set_cons_succ])
    (try simp only [List.set_cons_zero])
    refine wpAnyH_ready (rs := [10]) (by kernel_rfl) (by simp) ?_
    refine AllReadyH.cons (o := _) rfl (fun K hK => ?_) AllReadyH.nil
    go_simp
    refine (C0.out _ hH0).mono ?_
    rintro r w1 ⟨rfl, hb1⟩
    refine hK.out _ _ (btr hH0 hb1) (fun hH1 => ?_)
    clear hK K
    (try simp only [List.getElem_toArray])
    (try simp only [List.getElem_cons_succ])
    (try simp only [List.getElem_cons_zero])
    (try simp only [Act.put])
    (try simp only [List.setIfInBounds_toArray])
    (try simp only [List.set_cons_succ])
    (try simp only [List.set_cons_zero])
    refine wpAnyH_take (i := 11) (oi := _) (v := ?_) rfl (by kernel_rfl) (by kernel_rfl) (by kernel_rfl) (fun _ _ _ h => h) (Or.inl ⟨?_, ?_⟩) hH1 ?_
    rotate_left
    ·kernel_rfl
    ·(intro W' hSw; have f0 := keepc hSw hc; have f1 := keepc hSw hc2; have f2 := keepc hSw c0; have f3 := keepc hSw c1; have f4 := keepc hSw c2; have f5 := keepc hSw c3; have f6 := keepc hSw d0; have f7 := keepc hSw d1; have f8 := keepc hSw d2; have f9 := keepc hSw d3; go_simp; (try with_reducible rfl))
    (try simp only [List.getElem_toArray])
    (try simp only [List.getElem_cons_succ])
    (try simp only [List.getElem_cons_zero])
    (try simp only [Act.put])
    (try simp only [List.setIfInBounds_toArray])
    (try simp only [List.set_cons_succ])
    (try simp only [List.set_cons_zero])
    refine wpAnyH_done (by kernel_rfl) ?_ _
    go_wp2_with fail
    go_ret
    exact ⟨by rw [HRf.out]; rfl, btr HB.out hH1⟩
  ·have he : k = N := by omega
   subst he
   have HRt : Hid (R = true) := Lib.hid (by
    rw [← HR.out]
    have := HQ.out
    rw [← HN.out] at this
    rw [take_all_eq HL.out this]
    exact same_yes rfl)
   go_wp2_with fail
   go_ret
   exact ⟨by rw [HRt.out]; rfl, HB.out⟩
end Go.Proofs.YthanoilbcdhbkaaGreatDoor
