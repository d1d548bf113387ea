/-
  Expressions: contracts of the document's own right and Validate.
-/
import Derived.Test.YthanoilbcdhbkaaGreatDoorQHV
import Derived.Test.YthanoilbcdhbkaaGreatDoorQEV
import Derived.Test.YthanoilbcdhbkaaGreatDoorQGR
namespace Go.Proofs.YthanoilbcdhbkaaGreatDoor
open Go Go.RowKit Go.Lib Go.Shelf WM TM EM

theorem pres_all (l : List Ex) : (pres l).all fmd = l.all right := by
 induction l with
 | nil => rfl
 | cons e l ih => rw [pres, List.all_append, ih]; rfl
theorem right_eq (e : Ex) : right e = (fmd e && e.args.all right) := by
 obtain ⟨o, n, s, a⟩ := e
 show (pre _).all fmd = _
 rw [pre, List.all_cons, pres_all]
 rfl
theorem all_false_at (l : List Ex) (k : Nat) (h : k < l.length) (hf : right (l.getD k E0) = false) : l.all right = false := by
 cases hh : l.all right with
 | false => rfl
 | true =>
  rw [List.all_eq_true] at hh
  rw [hh _ (getD_mem'' E0 l k h)] at hf
  cases hf
theorem all_next (l : List Ex) (k : Nat) (h : k < l.length) (ha : (l.take k).all right = true) (ht : right (l.getD k E0) = true) : (l.take (k + 1)).all right = true := by
 rw [take_gx E0 l k h, List.all_append, ha]
 simp only [List.all_cons, List.all_nil, Bool.and_true, Bool.true_and]
 exact ht
set_option maxRecDepth 100000 in
set_option maxHeartbeats 8000000 in
theorem rright : ∀ (e : Ex) (so : Option Addr) (cap : Nat) (w : World), siz e ≤ 100000 → ExprsAt so e.args w →
  Calls Tryz.prog 69 #[.agg #[.int .i64 e.op, .int .i64 e.n, .string (str e.s), .slice so e.args.length cap]] w fun r w' => r = .returned (.bool (right e)) ∧ Below w.heap.size w w' := by
 refine ex_ind _ fun e ih so cap w hm h => ?_
 obtain ⟨R, hR⟩ : ∃ R, right e = R := ⟨_, rfl⟩
 rw [hR]
 rw [right_eq, fmd_eq] at hR
 rw [siz_eq] at hm
 obtain ⟨l, hl⟩ : ∃ l, e.args = l := ⟨_, rfl⟩
 obtain ⟨o, ho⟩ : ∃ o, e.op = o := ⟨_, rfl⟩
 obtain ⟨v, hv⟩ : ∃ v, e.n = v := ⟨_, rfl⟩
 obtain ⟨s, hs⟩ : ∃ s, e.s = s := ⟨_, rfl⟩
 obtain ⟨n, hn⟩ : ∃ n, l.length = n := ⟨_, rfl⟩
 obtain ⟨X, hX⟩ : ∃ X, str s = X := ⟨_, rfl⟩
 rw [hl, ho, hv, hs, hn] at hR
 rw [hl] at ih hm h
 rw [ho, hv, hs, hl, hn, hX]
 have HX := Lib.hid hX
 have HT := Lib.hid h
 have IH := Lib.hid ih
 have HN := Lib.hid hn
 have HM := Lib.hid hm
 clear ih h hn hl ho hv hs hX hm
 by_cases h1 : (n : Int) = opn o
 rotate_left
 ·have HF : Hid (R = false) := Lib.hid (by rw [← hR, decide_eq_false h1]; rfl)
  have D1 : ((n : Int) == opn o) = false := by first | (rw [beq_iff_eq]; exact h1) | (rw [beq_eq_false_iff_ne]; exact h1)
  have E1 : ((n : Int) != opn o) = true := by rw [bne, D1]; rfl
  have D2 := trivial
  have D3 := trivial
  have D4 := trivial
  have E4 := trivial
  have D5 := trivial
  have E5 := trivial
  have D6 := trivial
  have E6 := trivial
  clear hR h1
  go_enter Tryz.func69, Tryz.ntmps69
  go_wp2_with fail
  obtain ⟨W2, hW2⟩ : ∃ W2, (w.alloc (.cells #[.int .i64 o, .int .i64 v, .string X, .slice so n cap] 24)) = W2 := ⟨_, rfl⟩
  have hb2 : Below w.heap.size w W2 := by rw [← hW2]; exact bal (bref _) _
  have b0 : W2.cell? ⟨w.heap.size, 0, none⟩ = some (.int .i64 o) := by rw [← hW2]; simp [go_sem]
  have b1 : W2.cell? ⟨w.heap.size, 1, none⟩ = some (.int .i64 v) := by rw [← hW2]; simp [go_sem]
  have b2 : W2.cell? ⟨w.heap.size, 2, none⟩ = some (.string X) := by rw [← hW2]; simp [go_sem]
  have b3 : W2.cell? ⟨w.heap.size, 3, none⟩ = some (.slice so n cap) := by rw [← hW2]; simp [go_sem]
  rw [hW2]
  clear hW2
  refine wp_region_held_drew (S := (fun W => Below W2.heap.size W2 W)) (by kernel_rfl) (bdr (bref _)) (fun hH0 => ?_)
  refine wpAnyH_take (i := 0) (oi := _) (v := ?_) rfl (by kernel_rfl) (by kernel_rfl) (by kernel_rfl) (fun _ _ _ h => h) (Or.inl ⟨?_, ?_⟩) hH0 ?_
  rotate_left
  ·kernel_rfl
  ·(intro W' _; go_simp; (try with_reducible rfl))
  (try simp only [List.getElem_toArray, List.getElem_cons_zero, Act.put, List.setIfInBounds_toArray, List.set_cons_succ, List.set_cons_zero])
  refine wpAnyH_take (i := 1) (oi := _) (v := ?_) rfl (by kernel_rfl) (by kernel_rfl) (by kernel_rfl) (fun _ _ _ h => h) (Or.inl ⟨?_, ?_⟩) hH0 ?_
  rotate_left
  ·kernel_rfl
  ·(intro W' hSw; have f0 := keepc hSw b0; have f1 := keepc hSw b1; have f2 := keepc hSw b2; have f3 := keepc hSw b3; go_simp; (try with_reducible rfl))
  (try simp only [List.getElem_toArray, List.getElem_cons_succ, List.getElem_cons_zero, Act.put, List.setIfInBounds_toArray, List.set_cons_succ, List.set_cons_zero])
  refine wpAnyH_take (i := 2) (oi := _) (v := ?_) rfl (by kernel_rfl) (by kernel_rfl) (by kernel_rfl) (fun _ _ _ h => h) (Or.inl ⟨?_, ?_⟩) hH0 ?_
  rotate_left
  ·kernel_rfl
  ·(intro W' _; go_simp; (try simp only [D1, E1, D2, D3, D4, E4, D5, E5, D6, E6, Bool.not_true, Bool.not_false]); (try with_reducible rfl))
  (try simp only [List.getElem_toArray, List.getElem_cons_succ, List.getElem_cons_zero, Act.put, List.setIfInBounds_toArray, List.set_cons_succ, List.set_cons_zero])
  refine wpAnyH_take (i := 3) (oi := _) (v := ?_) rfl (by kernel_rfl) (by kernel_rfl) (by kernel_rfl) (fun _ _ _ h => h) (Or.inl ⟨?_, ?_⟩) hH0 ?_
  rotate_left
  ·kernel_rfl
  ·(intro W' _; go_simp; (try with_reducible rfl))
  (try simp only [List.getElem_toArray, List.getElem_cons_succ, List.getElem_cons_zero, Act.put, List.setIfInBounds_toArray, List.set_cons_succ, List.set_cons_zero])
  refine wpAnyH_take (i := 4) (oi := _) (v := ?_) rfl (by kernel_rfl) (by kernel_rfl) (by kernel_rfl) (fun _ _ _ h => h) (Or.inl ⟨?_, ?_⟩) hH0 ?_
  rotate_left
  ·kernel_rfl
  ·(intro W' hSw; have f0 := keepc hSw b0; have f1 := keepc hSw b1; have f2 := keepc hSw b2; have f3 := keepc hSw b3; go_simp; (try with_reducible rfl))
  (try simp only [List.getElem_toArray, List.getElem_cons_succ, List.getElem_cons_zero, Act.put, List.setIfInBounds_toArray, List.set_cons_succ, List.set_cons_zero])
  refine wpAnyH_ready (rs := [5]) (by kernel_rfl) (by simp) ?_
  refine AllReadyH.cons (o := _) rfl (fun K hK => ?_) AllReadyH.nil
  go_simp
  refine (roperands o _).mono ?_
  rintro r w1 ⟨rfl, rfl⟩
  refine hK.out _ _ hH0 (fun hH1 => ?_)
  clear hK K
  (try simp only [List.getElem_toArray, List.getElem_cons_succ, List.getElem_cons_zero, Act.put, List.setIfInBounds_toArray, List.set_cons_succ, List.set_cons_zero])
  refine wpAnyH_take (i := 6) (oi := _) (v := ?_) rfl (by kernel_rfl) (by kernel_rfl) (by kernel_rfl) (fun _ _ _ h => h) (Or.inl ⟨?_, ?_⟩) hH1 ?_
  rotate_left
  ·kernel_rfl
  ·(intro W' _; go_simp; (try simp only [D1, E1, D2, D3, D4, E4, D5, E5, D6, E6, Bool.not_true, Bool.not_false]); (try with_reducible rfl))
  (try simp only [List.getElem_toArray, List.getElem_cons_succ, List.getElem_cons_zero, Act.put, List.setIfInBounds_toArray, List.set_cons_succ, List.set_cons_zero])
  refine wpAnyH_take (i := 7) (oi := _) (v := ?_) rfl (by kernel_rfl) (by kernel_rfl) (by kernel_rfl) (fun _ _ _ h => h) (Or.inl ⟨?_, ?_⟩) hH1 ?_
  rotate_left
  ·kernel_rfl
  ·(intro W' _; go_simp; (try with_reducible rfl))
  (try simp only [List.getElem_toArray, List.getElem_cons_succ, List.getElem_cons_zero, Act.put, List.setIfInBounds_toArray, List.set_cons_succ, List.set_cons_zero])
  refine wpAnyH_take (i := 8) (oi := _) (v := undef) rfl (by kernel_rfl) (by kernel_rfl) (by kernel_rfl) (fun _ _ _ h => h) (Or.inr ⟨?_, rfl⟩) hH1 ?_
  ·kernel_rfl
  refine wpAnyH_take (i := 9) (oi := _) (v := undef) rfl (by kernel_rfl) (by kernel_rfl) (by kernel_rfl) (fun _ _ _ h => h) (Or.inr ⟨?_, rfl⟩) hH1 ?_
  ·kernel_rfl
  refine wpAnyH_take (i := 10) (oi := _) (v := undef) rfl (by kernel_rfl) (by kernel_rfl) (by kernel_rfl) (fun _ _ _ h => h) (Or.inr ⟨?_, rfl⟩) hH1 ?_
  ·kernel_rfl
  (try simp only [List.getElem_toArray, List.getElem_cons_succ, List.getElem_cons_zero, Act.put, List.setIfInBounds_toArray, List.set_cons_succ, List.set_cons_zero])
  refine wpAnyH_take (i := 11) (oi := _) (v := ?_) rfl (by kernel_rfl) (by kernel_rfl) (by kernel_rfl) (fun _ _ _ h => h) (Or.inl ⟨?_, ?_⟩) hH1 ?_
  rotate_left
  ·kernel_rfl
  ·(intro W' _; go_simp; (try simp only [D1, E1, D2, D3, D4, E4, D5, E5, D6, E6, Bool.not_true, Bool.not_false]); (try with_reducible rfl))
  (try simp only [List.getElem_toArray, List.getElem_cons_succ, List.getElem_cons_zero, Act.put, List.setIfInBounds_toArray, List.set_cons_succ, List.set_cons_zero])
  refine wpAnyH_take (i := 12) (oi := _) (v := ?_) rfl (by kernel_rfl) (by kernel_rfl) (by kernel_rfl) (fun _ _ _ h => h) (Or.inl ⟨?_, ?_⟩) hH1 ?_
  rotate_left
  ·kernel_rfl
  ·(intro W' _; go_simp; (try with_reducible rfl))
  (try simp only [List.getElem_toArray, List.getElem_cons_succ, List.getElem_cons_zero, Act.put, List.setIfInBounds_toArray, List.set_cons_succ, List.set_cons_zero])
  refine wpAnyH_take (i := 13) (oi := _) (v := undef) rfl (by kernel_rfl) (by kernel_rfl) (by kernel_rfl) (fun _ _ _ h => h) (Or.inr ⟨?_, rfl⟩) hH1 ?_
  ·kernel_rfl
  refine wpAnyH_take (i := 14) (oi := _) (v := undef) rfl (by kernel_rfl) (by kernel_rfl) (by kernel_rfl) (fun _ _ _ h => h) (Or.inr ⟨?_, rfl⟩) hH1 ?_
  ·kernel_rfl
  refine wpAnyH_take (i := 15) (oi := _) (v := undef) rfl (by kernel_rfl) (by kernel_rfl) (by kernel_rfl) (fun _ _ _ h => h) (Or.inr ⟨?_, rfl⟩) hH1 ?_
  ·kernel_rfl
  refine wpAnyH_take (i := 16) (oi := _) (v := undef) rfl (by kernel_rfl) (by kernel_rfl) (by kernel_rfl) (fun _ _ _ h => h) (Or.inr ⟨?_, rfl⟩) hH1 ?_
  ·kernel_rfl
  refine wpAnyH_take (i := 17) (oi := _) (v := undef) rfl (by kernel_rfl) (by kernel_rfl) (by kernel_rfl) (fun _ _ _ h => h) (Or.inr ⟨?_, rfl⟩) hH1 ?_
  ·kernel_rfl
  refine wpAnyH_take (i := 18) (oi := _) (v := undef) rfl (by kernel_rfl) (by kernel_rfl) (by kernel_rfl) (fun _ _ _ h => h) (Or.inr ⟨?_, rfl⟩) hH1 ?_
  ·kernel_rfl
  (try simp only [List.getElem_toArray, List.getElem_cons_succ, List.getElem_cons_zero, Act.put, List.setIfInBounds_toArray, List.set_cons_succ, List.set_cons_zero])
  refine wpAnyH_take (i := 19) (oi := _) (v := ?_) rfl (by kernel_rfl) (by kernel_rfl) (by kernel_rfl) (fun _ _ _ h => h) (Or.inl ⟨?_, ?_⟩) hH1 ?_
  rotate_left
  ·kernel_rfl
  ·(intro W' _; go_simp; (try simp only [D1, E1, D2, D3, D4, E4, D5, E5, D6, E6, Bool.not_true, Bool.not_false]); (try with_reducible rfl))
  (try simp only [List.getElem_toArray, List.getElem_cons_succ, List.getElem_cons_zero, Act.put, List.setIfInBounds_toArray, List.set_cons_succ, List.set_cons_zero])
  refine wpAnyH_take (i := 20) (oi := _) (v := ?_) rfl (by kernel_rfl) (by kernel_rfl) (by kernel_rfl) (fun _ _ _ h => h) (Or.inl ⟨?_, ?_⟩) hH1 ?_
  rotate_left
  ·kernel_rfl
  ·(intro W' _; go_simp; (try with_reducible rfl))
  (try simp only [List.getElem_toArray, List.getElem_cons_succ, List.getElem_cons_zero, Act.put, List.setIfInBounds_toArray, List.set_cons_succ, List.set_cons_zero])
  refine wpAnyH_take (i := 21) (oi := _) (v := undef) rfl (by kernel_rfl) (by kernel_rfl) (by kernel_rfl) (fun _ _ _ h => h) (Or.inr ⟨?_, rfl⟩) hH1 ?_
  ·kernel_rfl
  refine wpAnyH_take (i := 22) (oi := _) (v := undef) rfl (by kernel_rfl) (by kernel_rfl) (by kernel_rfl) (fun _ _ _ h => h) (Or.inr ⟨?_, rfl⟩) hH1 ?_
  ·kernel_rfl
  refine wpAnyH_take (i := 23) (oi := _) (v := undef) rfl (by kernel_rfl) (by kernel_rfl) (by kernel_rfl) (fun _ _ _ h => h) (Or.inr ⟨?_, rfl⟩) hH1 ?_
  ·kernel_rfl
  refine wpAnyH_take (i := 24) (oi := _) (v := undef) rfl (by kernel_rfl) (by kernel_rfl) (by kernel_rfl) (fun _ _ _ h => h) (Or.inr ⟨?_, rfl⟩) hH1 ?_
  ·kernel_rfl
  refine wpAnyH_take (i := 25) (oi := _) (v := undef) rfl (by kernel_rfl) (by kernel_rfl) (by kernel_rfl) (fun _ _ _ h => h) (Or.inr ⟨?_, rfl⟩) hH1 ?_
  ·kernel_rfl
  refine wpAnyH_take (i := 26) (oi := _) (v := undef) rfl (by kernel_rfl) (by kernel_rfl) (by kernel_rfl) (fun _ _ _ h => h) (Or.inr ⟨?_, rfl⟩) hH1 ?_
  ·kernel_rfl
  (try simp only [List.getElem_toArray, List.getElem_cons_succ, List.getElem_cons_zero, Act.put, List.setIfInBounds_toArray, List.set_cons_succ, List.set_cons_zero])
  refine wpAnyH_take (i := 27) (oi := _) (v := undef) rfl (by kernel_rfl) (by kernel_rfl) (by kernel_rfl) (fun _ _ _ h => h) (Or.inr ⟨?_, rfl⟩) hH1 ?_
  ·kernel_rfl
  refine wpAnyH_take (i := 28) (oi := _) (v := undef) rfl (by kernel_rfl) (by kernel_rfl) (by kernel_rfl) (fun _ _ _ h => h) (Or.inr ⟨?_, rfl⟩) hH1 ?_
  ·kernel_rfl
  (try simp only [List.getElem_toArray, List.getElem_cons_succ, List.getElem_cons_zero, Act.put, List.setIfInBounds_toArray, List.set_cons_succ, List.set_cons_zero])
  refine wpAnyH_take (i := 29) (oi := _) (v := ?_) rfl (by kernel_rfl) (by kernel_rfl) (by kernel_rfl) (fun _ _ _ h => h) (Or.inl ⟨?_, ?_⟩) hH1 ?_
  rotate_left
  ·kernel_rfl
  ·(intro W' _; go_simp; (try simp only [D1, E1, D2, D3, D4, E4, D5, E5, D6, E6, Bool.not_true, Bool.not_false]); (try with_reducible rfl))
  (try simp only [List.getElem_toArray, List.getElem_cons_succ, List.getElem_cons_zero, Act.put, List.setIfInBounds_toArray, List.set_cons_succ, List.set_cons_zero])
  refine wpAnyH_done (by kernel_rfl) ?_ _
  go_wp2_with fail
  go_ret
  exact ⟨by rw [HF.out]; rfl, btr hb2 hH1⟩
 ·by_cases h2 : v < 0
  ·have HF : Hid (R = false) := Lib.hid (by rw [← hR, decide_eq_false (show ¬ 0 ≤ v by omega)]; simp)
   have D1 : ((n : Int) == opn o) = true := by first | (rw [beq_iff_eq]; exact h1) | (rw [beq_eq_false_iff_ne]; exact h1)
   have E1 : ((n : Int) != opn o) = false := by rw [bne, D1]; rfl
   have D2 : decide (v < 0) = true := by simp; omega
   have D3 := trivial
   have D4 := trivial
   have E4 := trivial
   have D5 := trivial
   have E5 := trivial
   have D6 := trivial
   have E6 := trivial
   clear hR h1 h2
   go_enter Tryz.func69, Tryz.ntmps69
   go_wp2_with fail
   obtain ⟨W2, hW2⟩ : ∃ W2, (w.alloc (.cells #[.int .i64 o, .int .i64 v, .string X, .slice so n cap] 24)) = W2 := ⟨_, rfl⟩
   have hb2 : Below w.heap.size w W2 := by rw [← hW2]; exact bal (bref _) _
   have b0 : W2.cell? ⟨w.heap.size, 0, none⟩ = some (.int .i64 o) := by rw [← hW2]; simp [go_sem]
   have b1 : W2.cell? ⟨w.heap.size, 1, none⟩ = some (.int .i64 v) := by rw [← hW2]; simp [go_sem]
   have b2 : W2.cell? ⟨w.heap.size, 2, none⟩ = some (.string X) := by rw [← hW2]; simp [go_sem]
   have b3 : W2.cell? ⟨w.heap.size, 3, none⟩ = some (.slice so n cap) := by rw [← hW2]; simp [go_sem]
   rw [hW2]
   clear hW2
   refine wp_region_held_drew (S := (fun W => Below W2.heap.size W2 W)) (by kernel_rfl) (bdr (bref _)) (fun hH0 => ?_)
   refine wpAnyH_take (i := 0) (oi := _) (v := ?_) rfl (by kernel_rfl) (by kernel_rfl) (by kernel_rfl) (fun _ _ _ h => h) (Or.inl ⟨?_, ?_⟩) hH0 ?_
   rotate_left
   ·kernel_rfl
   ·(intro W' _; go_simp; (try with_reducible rfl))
   (try simp only [List.getElem_toArray, List.getElem_cons_zero, Act.put, List.setIfInBounds_toArray, List.set_cons_succ, List.set_cons_zero])
   refine wpAnyH_take (i := 1) (oi := _) (v := ?_) rfl (by kernel_rfl) (by kernel_rfl) (by kernel_rfl) (fun _ _ _ h => h) (Or.inl ⟨?_, ?_⟩) hH0 ?_
   rotate_left
   ·kernel_rfl
   ·(intro W' hSw; have f0 := keepc hSw b0; have f1 := keepc hSw b1; have f2 := keepc hSw b2; have f3 := keepc hSw b3; go_simp; (try with_reducible rfl))
   (try simp only [List.getElem_toArray, List.getElem_cons_succ, List.getElem_cons_zero, Act.put, List.setIfInBounds_toArray, List.set_cons_succ, List.set_cons_zero])
   refine wpAnyH_take (i := 2) (oi := _) (v := ?_) rfl (by kernel_rfl) (by kernel_rfl) (by kernel_rfl) (fun _ _ _ h => h) (Or.inl ⟨?_, ?_⟩) hH0 ?_
   rotate_left
   ·kernel_rfl
   ·(intro W' _; go_simp; (try simp only [D1, E1, D2, D3, D4, E4, D5, E5, D6, E6, Bool.not_true, Bool.not_false]); (try with_reducible rfl))
   (try simp only [List.getElem_toArray, List.getElem_cons_succ, List.getElem_cons_zero, Act.put, List.setIfInBounds_toArray, List.set_cons_succ, List.set_cons_zero])
   refine wpAnyH_take (i := 3) (oi := _) (v := ?_) rfl (by kernel_rfl) (by kernel_rfl) (by kernel_rfl) (fun _ _ _ h => h) (Or.inl ⟨?_, ?_⟩) hH0 ?_
   rotate_left
   ·kernel_rfl
   ·(intro W' _; go_simp; (try with_reducible rfl))
   (try simp only [List.getElem_toArray, List.getElem_cons_succ, List.getElem_cons_zero, Act.put, List.setIfInBounds_toArray, List.set_cons_succ, List.set_cons_zero])
   refine wpAnyH_take (i := 4) (oi := _) (v := ?_) rfl (by kernel_rfl) (by kernel_rfl) (by kernel_rfl) (fun _ _ _ h => h) (Or.inl ⟨?_, ?_⟩) hH0 ?_
   rotate_left
   ·kernel_rfl
   ·(intro W' hSw; have f0 := keepc hSw b0; have f1 := keepc hSw b1; have f2 := keepc hSw b2; have f3 := keepc hSw b3; go_simp; (try with_reducible rfl))
   (try simp only [List.getElem_toArray, List.getElem_cons_succ, List.getElem_cons_zero, Act.put, List.setIfInBounds_toArray, List.set_cons_succ, List.set_cons_zero])
   refine wpAnyH_ready (rs := [5]) (by kernel_rfl) (by simp) ?_
   refine AllReadyH.cons (o := _) rfl (fun K hK => ?_) AllReadyH.nil
   go_simp
   refine (roperands o _).mono ?_
   rintro r w1 ⟨rfl, rfl⟩
   refine hK.out _ _ hH0 (fun hH1 => ?_)
   clear hK K
   (try simp only [List.getElem_toArray, List.getElem_cons_succ, List.getElem_cons_zero, Act.put, List.setIfInBounds_toArray, List.set_cons_succ, List.set_cons_zero])
   refine wpAnyH_take (i := 6) (oi := _) (v := ?_) rfl (by kernel_rfl) (by kernel_rfl) (by kernel_rfl) (fun _ _ _ h => h) (Or.inl ⟨?_, ?_⟩) hH1 ?_
   rotate_left
   ·kernel_rfl
   ·(intro W' _; go_simp; (try simp only [D1, E1, D2, D3, D4, E4, D5, E5, D6, E6, Bool.not_true, Bool.not_false]); (try with_reducible rfl))
   (try simp only [List.getElem_toArray, List.getElem_cons_succ, List.getElem_cons_zero, Act.put, List.setIfInBounds_toArray, List.set_cons_succ, List.set_cons_zero])
   refine wpAnyH_take (i := 7) (oi := _) (v := ?_) rfl (by kernel_rfl) (by kernel_rfl) (by kernel_rfl) (fun _ _ _ h => h) (Or.inl ⟨?_, ?_⟩) hH1 ?_
   rotate_left
   ·kernel_rfl
   ·(intro W' _; go_simp; (try with_reducible rfl))
   (try simp only [List.getElem_toArray, List.getElem_cons_succ, List.getElem_cons_zero, Act.put, List.setIfInBounds_toArray, List.set_cons_succ, List.set_cons_zero])
   refine wpAnyH_take (i := 8) (oi := _) (v := ?_) rfl (by kernel_rfl) (by kernel_rfl) (by kernel_rfl) (fun _ _ _ h => h) (Or.inl ⟨?_, ?_⟩) hH1 ?_
   rotate_left
   ·kernel_rfl
   ·(intro W' _; go_simp; (try with_reducible rfl))
   (try simp only [List.getElem_toArray, List.getElem_cons_succ, List.getElem_cons_zero, Act.put, List.setIfInBounds_toArray, List.set_cons_succ, List.set_cons_zero])
   refine wpAnyH_take (i := 9) (oi := _) (v := ?_) rfl (by kernel_rfl) (by kernel_rfl) (by kernel_rfl) (fun _ _ _ h => h) (Or.inl ⟨?_, ?_⟩) hH1 ?_
   rotate_left
   ·kernel_rfl
   ·(intro W' hSw; have f0 := keepc hSw b0; have f1 := keepc hSw b1; have f2 := keepc hSw b2; have f3 := keepc hSw b3; go_simp; (try with_reducible rfl))
   (try simp only [List.getElem_toArray, List.getElem_cons_succ, List.getElem_cons_zero, Act.put, List.setIfInBounds_toArray, List.set_cons_succ, List.set_cons_zero])
   refine wpAnyH_take (i := 10) (oi := _) (v := ?_) rfl (by kernel_rfl) (by kernel_rfl) (by kernel_rfl) (fun _ _ _ h => h) (Or.inl ⟨?_, ?_⟩) hH1 ?_
   rotate_left
   ·kernel_rfl
   ·(intro W' _; go_simp; (try simp only [D1, E1, D2, D3, D4, E4, D5, E5, D6, E6, Bool.not_true, Bool.not_false]); (try with_reducible rfl))
   (try simp only [List.getElem_toArray, List.getElem_cons_succ, List.getElem_cons_zero, Act.put, List.setIfInBounds_toArray, List.set_cons_succ, List.set_cons_zero])
   refine wpAnyH_take (i := 11) (oi := _) (v := ?_) rfl (by kernel_rfl) (by kernel_rfl) (by kernel_rfl) (fun _ _ _ h => h) (Or.inl ⟨?_, ?_⟩) hH1 ?_
   rotate_left
   ·kernel_rfl
   ·(intro W' _; go_simp; (try simp only [D1, E1, D2, D3, D4, E4, D5, E5, D6, E6, Bool.not_true, Bool.not_false]); (try with_reducible rfl))
   (try simp only [List.getElem_toArray, List.getElem_cons_succ, List.getElem_cons_zero, Act.put, List.setIfInBounds_toArray, List.set_cons_succ, List.set_cons_zero])
   refine wpAnyH_take (i := 12) (oi := _) (v := ?_) rfl (by kernel_rfl) (by kernel_rfl) (by kernel_rfl) (fun _ _ _ h => h) (Or.inl ⟨?_, ?_⟩) hH1 ?_
   rotate_left
   ·kernel_rfl
   ·(intro W' _; go_simp; (try with_reducible rfl))
   (try simp only [List.getElem_toArray, List.getElem_cons_succ, List.getElem_cons_zero, Act.put, List.setIfInBounds_toArray, List.set_cons_succ, List.set_cons_zero])
   refine wpAnyH_take (i := 13) (oi := _) (v := undef) rfl (by kernel_rfl) (by kernel_rfl) (by kernel_rfl) (fun _ _ _ h => h) (Or.inr ⟨?_, rfl⟩) hH1 ?_
   ·kernel_rfl
   refine wpAnyH_take (i := 14) (oi := _) (v := undef) rfl (by kernel_rfl) (by kernel_rfl) (by kernel_rfl) (fun _ _ _ h => h) (Or.inr ⟨?_, rfl⟩) hH1 ?_
   ·kernel_rfl
   refine wpAnyH_take (i := 15) (oi := _) (v := undef) rfl (by kernel_rfl) (by kernel_rfl) (by kernel_rfl) (fun _ _ _ h => h) (Or.inr ⟨?_, rfl⟩) hH1 ?_
   ·kernel_rfl
   refine wpAnyH_take (i := 16) (oi := _) (v := undef) rfl (by kernel_rfl) (by kernel_rfl) (by kernel_rfl) (fun _ _ _ h => h) (Or.inr ⟨?_, rfl⟩) hH1 ?_
   ·kernel_rfl
   refine wpAnyH_take (i := 17) (oi := _) (v := undef) rfl (by kernel_rfl) (by kernel_rfl) (by kernel_rfl) (fun _ _ _ h => h) (Or.inr ⟨?_, rfl⟩) hH1 ?_
   ·kernel_rfl
   refine wpAnyH_take (i := 18) (oi := _) (v := undef) rfl (by kernel_rfl) (by kernel_rfl) (by kernel_rfl) (fun _ _ _ h => h) (Or.inr ⟨?_, rfl⟩) hH1 ?_
   ·kernel_rfl
   (try simp only [List.getElem_toArray, List.getElem_cons_succ, List.getElem_cons_zero, Act.put, List.setIfInBounds_toArray, List.set_cons_succ, List.set_cons_zero])
   refine wpAnyH_take (i := 19) (oi := _) (v := ?_) rfl (by kernel_rfl) (by kernel_rfl) (by kernel_rfl) (fun _ _ _ h => h) (Or.inl ⟨?_, ?_⟩) hH1 ?_
   rotate_left
   ·kernel_rfl
   ·(intro W' _; go_simp; (try simp only [D1, E1, D2, D3, D4, E4, D5, E5, D6, E6, Bool.not_true, Bool.not_false]); (try with_reducible rfl))
   (try simp only [List.getElem_toArray, List.getElem_cons_succ, List.getElem_cons_zero, Act.put, List.setIfInBounds_toArray, List.set_cons_succ, List.set_cons_zero])
   refine wpAnyH_take (i := 20) (oi := _) (v := ?_) rfl (by kernel_rfl) (by kernel_rfl) (by kernel_rfl) (fun _ _ _ h => h) (Or.inl ⟨?_, ?_⟩) hH1 ?_
   rotate_left
   ·kernel_rfl
   ·(intro W' _; go_simp; (try with_reducible rfl))
   (try simp only [List.getElem_toArray, List.getElem_cons_succ, List.getElem_cons_zero, Act.put, List.setIfInBounds_toArray, List.set_cons_succ, List.set_cons_zero])
   refine wpAnyH_take (i := 21) (oi := _) (v := undef) rfl (by kernel_rfl) (by kernel_rfl) (by kernel_rfl) (fun _ _ _ h => h) (Or.inr ⟨?_, rfl⟩) hH1 ?_
   ·kernel_rfl
   refine wpAnyH_take (i := 22) (oi := _) (v := undef) rfl (by kernel_rfl) (by kernel_rfl) (by kernel_rfl) (fun _ _ _ h => h) (Or.inr ⟨?_, rfl⟩) hH1 ?_
   ·kernel_rfl
   refine wpAnyH_take (i := 23) (oi := _) (v := undef) rfl (by kernel_rfl) (by kernel_rfl) (by kernel_rfl) (fun _ _ _ h => h) (Or.inr ⟨?_, rfl⟩) hH1 ?_
   ·kernel_rfl
   refine wpAnyH_take (i := 24) (oi := _) (v := undef) rfl (by kernel_rfl) (by kernel_rfl) (by kernel_rfl) (fun _ _ _ h => h) (Or.inr ⟨?_, rfl⟩) hH1 ?_
   ·kernel_rfl
   refine wpAnyH_take (i := 25) (oi := _) (v := undef) rfl (by kernel_rfl) (by kernel_rfl) (by kernel_rfl) (fun _ _ _ h => h) (Or.inr ⟨?_, rfl⟩) hH1 ?_
   ·kernel_rfl
   refine wpAnyH_take (i := 26) (oi := _) (v := undef) rfl (by kernel_rfl) (by kernel_rfl) (by kernel_rfl) (fun _ _ _ h => h) (Or.inr ⟨?_, rfl⟩) hH1 ?_
   ·kernel_rfl
   (try simp only [List.getElem_toArray, List.getElem_cons_succ, List.getElem_cons_zero, Act.put, List.setIfInBounds_toArray, List.set_cons_succ, List.set_cons_zero])
   refine wpAnyH_take (i := 27) (oi := _) (v := undef) rfl (by kernel_rfl) (by kernel_rfl) (by kernel_rfl) (fun _ _ _ h => h) (Or.inr ⟨?_, rfl⟩) hH1 ?_
   ·kernel_rfl
   refine wpAnyH_take (i := 28) (oi := _) (v := undef) rfl (by kernel_rfl) (by kernel_rfl) (by kernel_rfl) (fun _ _ _ h => h) (Or.inr ⟨?_, rfl⟩) hH1 ?_
   ·kernel_rfl
   (try simp only [List.getElem_toArray, List.getElem_cons_succ, List.getElem_cons_zero, Act.put, List.setIfInBounds_toArray, List.set_cons_succ, List.set_cons_zero])
   refine wpAnyH_take (i := 29) (oi := _) (v := ?_) rfl (by kernel_rfl) (by kernel_rfl) (by kernel_rfl) (fun _ _ _ h => h) (Or.inl ⟨?_, ?_⟩) hH1 ?_
   rotate_left
   ·kernel_rfl
   ·(intro W' _; go_simp; (try simp only [D1, E1, D2, D3, D4, E4, D5, E5, D6, E6, Bool.not_true, Bool.not_false]); (try with_reducible rfl))
   (try simp only [List.getElem_toArray, List.getElem_cons_succ, List.getElem_cons_zero, Act.put, List.setIfInBounds_toArray, List.set_cons_succ, List.set_cons_zero])
   refine wpAnyH_done (by kernel_rfl) ?_ _
   go_wp2_with fail
   go_ret
   exact ⟨by rw [HF.out]; rfl, btr hb2 hH1⟩
  ·by_cases h3 : most o < v
   ·have HF : Hid (R = false) := Lib.hid (by rw [← hR, decide_eq_false (show ¬ v ≤ most o by omega)]; simp)
    have D1 : ((n : Int) == opn o) = true := by first | (rw [beq_iff_eq]; exact h1) | (rw [beq_eq_false_iff_ne]; exact h1)
    have E1 : ((n : Int) != opn o) = false := by rw [bne, D1]; rfl
    have D2 : decide (v < 0) = false := by simp; omega
    have D3 : decide (most o < v) = true := by simp; omega
    have D4 := trivial
    have E4 := trivial
    have D5 := trivial
    have E5 := trivial
    have D6 := trivial
    have E6 := trivial
    clear hR h1 h2 h3
    go_enter Tryz.func69, Tryz.ntmps69
    go_wp2_with fail
    obtain ⟨W2, hW2⟩ : ∃ W2, (w.alloc (.cells #[.int .i64 o, .int .i64 v, .string X, .slice so n cap] 24)) = W2 := ⟨_, rfl⟩
    have hb2 : Below w.heap.size w W2 := by rw [← hW2]; exact bal (bref _) _
    have b0 : W2.cell? ⟨w.heap.size, 0, none⟩ = some (.int .i64 o) := by rw [← hW2]; simp [go_sem]
    have b1 : W2.cell? ⟨w.heap.size, 1, none⟩ = some (.int .i64 v) := by rw [← hW2]; simp [go_sem]
    have b2 : W2.cell? ⟨w.heap.size, 2, none⟩ = some (.string X) := by rw [← hW2]; simp [go_sem]
    have b3 : W2.cell? ⟨w.heap.size, 3, none⟩ = some (.slice so n cap) := by rw [← hW2]; simp [go_sem]
    rw [hW2]
    clear hW2
    refine wp_region_held_drew (S := (fun W => Below W2.heap.size W2 W)) (by kernel_rfl) (bdr (bref _)) (fun hH0 => ?_)
    refine wpAnyH_take (i := 0) (oi := _) (v := ?_) rfl (by kernel_rfl) (by kernel_rfl) (by kernel_rfl) (fun _ _ _ h => h) (Or.inl ⟨?_, ?_⟩) hH0 ?_
    rotate_left
    ·kernel_rfl
    ·(intro W' _; go_simp; (try with_reducible rfl))
    (try simp only [List.getElem_toArray, List.getElem_cons_zero, Act.put, List.setIfInBounds_toArray, List.set_cons_succ, List.set_cons_zero])
    refine wpAnyH_take (i := 1) (oi := _) (v := ?_) rfl (by kernel_rfl) (by kernel_rfl) (by kernel_rfl) (fun _ _ _ h => h) (Or.inl ⟨?_, ?_⟩) hH0 ?_
    rotate_left
    ·kernel_rfl
    ·(intro W' hSw; have f0 := keepc hSw b0; have f1 := keepc hSw b1; have f2 := keepc hSw b2; have f3 := keepc hSw b3; go_simp; (try with_reducible rfl))
    (try simp only [List.getElem_toArray, List.getElem_cons_succ, List.getElem_cons_zero, Act.put, List.setIfInBounds_toArray, List.set_cons_succ, List.set_cons_zero])
    refine wpAnyH_take (i := 2) (oi := _) (v := ?_) rfl (by kernel_rfl) (by kernel_rfl) (by kernel_rfl) (fun _ _ _ h => h) (Or.inl ⟨?_, ?_⟩) hH0 ?_
    rotate_left
    ·kernel_rfl
    ·(intro W' _; go_simp; (try simp only [D1, E1, D2, D3, D4, E4, D5, E5, D6, E6, Bool.not_true, Bool.not_false]); (try with_reducible rfl))
    (try simp only [List.getElem_toArray, List.getElem_cons_succ, List.getElem_cons_zero, Act.put, List.setIfInBounds_toArray, List.set_cons_succ, List.set_cons_zero])
    refine wpAnyH_take (i := 3) (oi := _) (v := ?_) rfl (by kernel_rfl) (by kernel_rfl) (by kernel_rfl) (fun _ _ _ h => h) (Or.inl ⟨?_, ?_⟩) hH0 ?_
    rotate_left
    ·kernel_rfl
    ·(intro W' _; go_simp; (try with_reducible rfl))
    (try simp only [List.getElem_toArray, List.getElem_cons_succ, List.getElem_cons_zero, Act.put, List.setIfInBounds_toArray, List.set_cons_succ, List.set_cons_zero])
    refine wpAnyH_take (i := 4) (oi := _) (v := ?_) rfl (by kernel_rfl) (by kernel_rfl) (by kernel_rfl) (fun _ _ _ h => h) (Or.inl ⟨?_, ?_⟩) hH0 ?_
    rotate_left
    ·kernel_rfl
    ·(intro W' hSw; have f0 := keepc hSw b0; have f1 := keepc hSw b1; have f2 := keepc hSw b2; have f3 := keepc hSw b3; go_simp; (try with_reducible rfl))
    (try simp only [List.getElem_toArray, List.getElem_cons_succ, List.getElem_cons_zero, Act.put, List.setIfInBounds_toArray, List.set_cons_succ, List.set_cons_zero])
    refine wpAnyH_ready (rs := [5]) (by kernel_rfl) (by simp) ?_
    refine AllReadyH.cons (o := _) rfl (fun K hK => ?_) AllReadyH.nil
    go_simp
    refine (roperands o _).mono ?_
    rintro r w1 ⟨rfl, rfl⟩
    refine hK.out _ _ hH0 (fun hH1 => ?_)
    clear hK K
    (try simp only [List.getElem_toArray, List.getElem_cons_succ, List.getElem_cons_zero, Act.put, List.setIfInBounds_toArray, List.set_cons_succ, List.set_cons_zero])
    refine wpAnyH_take (i := 6) (oi := _) (v := ?_) rfl (by kernel_rfl) (by kernel_rfl) (by kernel_rfl) (fun _ _ _ h => h) (Or.inl ⟨?_, ?_⟩) hH1 ?_
    rotate_left
    ·kernel_rfl
    ·(intro W' _; go_simp; (try simp only [D1, E1, D2, D3, D4, E4, D5, E5, D6, E6, Bool.not_true, Bool.not_false]); (try with_reducible rfl))
    (try simp only [List.getElem_toArray, List.getElem_cons_succ, List.getElem_cons_zero, Act.put, List.setIfInBounds_toArray, List.set_cons_succ, List.set_cons_zero])
    refine wpAnyH_take (i := 7) (oi := _) (v := ?_) rfl (by kernel_rfl) (by kernel_rfl) (by kernel_rfl) (fun _ _ _ h => h) (Or.inl ⟨?_, ?_⟩) hH1 ?_
    rotate_left
    ·kernel_rfl
    ·(intro W' _; go_simp; (try with_reducible rfl))
    (try simp only [List.getElem_toArray, List.getElem_cons_succ, List.getElem_cons_zero, Act.put, List.setIfInBounds_toArray, List.set_cons_succ, List.set_cons_zero])
    refine wpAnyH_take (i := 8) (oi := _) (v := ?_) rfl (by kernel_rfl) (by kernel_rfl) (by kernel_rfl) (fun _ _ _ h => h) (Or.inl ⟨?_, ?_⟩) hH1 ?_
    rotate_left
    ·kernel_rfl
    ·(intro W' _; go_simp; (try with_reducible rfl))
    (try simp only [List.getElem_toArray, List.getElem_cons_succ, List.getElem_cons_zero, Act.put, List.setIfInBounds_toArray, List.set_cons_succ, List.set_cons_zero])
    refine wpAnyH_take (i := 9) (oi := _) (v := ?_) rfl (by kernel_rfl) (by kernel_rfl) (by kernel_rfl) (fun _ _ _ h => h) (Or.inl ⟨?_, ?_⟩) hH1 ?_
    rotate_left
    ·kernel_rfl
    ·(intro W' hSw; have f0 := keepc hSw b0; have f1 := keepc hSw b1; have f2 := keepc hSw b2; have f3 := keepc hSw b3; go_simp; (try with_reducible rfl))
    (try simp only [List.getElem_toArray, List.getElem_cons_succ, List.getElem_cons_zero, Act.put, List.setIfInBounds_toArray, List.set_cons_succ, List.set_cons_zero])
    refine wpAnyH_take (i := 10) (oi := _) (v := ?_) rfl (by kernel_rfl) (by kernel_rfl) (by kernel_rfl) (fun _ _ _ h => h) (Or.inl ⟨?_, ?_⟩) hH1 ?_
    rotate_left
    ·kernel_rfl
    ·(intro W' _; go_simp; (try simp only [D1, E1, D2, D3, D4, E4, D5, E5, D6, E6, Bool.not_true, Bool.not_false]); (try with_reducible rfl))
    (try simp only [List.getElem_toArray, List.getElem_cons_succ, List.getElem_cons_zero, Act.put, List.setIfInBounds_toArray, List.set_cons_succ, List.set_cons_zero])
    refine wpAnyH_take (i := 11) (oi := _) (v := ?_) rfl (by kernel_rfl) (by kernel_rfl) (by kernel_rfl) (fun _ _ _ h => h) (Or.inl ⟨?_, ?_⟩) hH1 ?_
    rotate_left
    ·kernel_rfl
    ·(intro W' _; go_simp; (try simp only [D1, E1, D2, D3, D4, E4, D5, E5, D6, E6, Bool.not_true, Bool.not_false]); (try with_reducible rfl))
    (try simp only [List.getElem_toArray, List.getElem_cons_succ, List.getElem_cons_zero, Act.put, List.setIfInBounds_toArray, List.set_cons_succ, List.set_cons_zero])
    refine wpAnyH_take (i := 12) (oi := _) (v := ?_) rfl (by kernel_rfl) (by kernel_rfl) (by kernel_rfl) (fun _ _ _ h => h) (Or.inl ⟨?_, ?_⟩) hH1 ?_
    rotate_left
    ·kernel_rfl
    ·(intro W' _; go_simp; (try with_reducible rfl))
    (try simp only [List.getElem_toArray, List.getElem_cons_succ, List.getElem_cons_zero, Act.put, List.setIfInBounds_toArray, List.set_cons_succ, List.set_cons_zero])
    refine wpAnyH_take (i := 13) (oi := _) (v := ?_) rfl (by kernel_rfl) (by kernel_rfl) (by kernel_rfl) (fun _ _ _ h => h) (Or.inl ⟨?_, ?_⟩) hH1 ?_
    rotate_left
    ·kernel_rfl
    ·(intro W' _; go_simp; (try with_reducible rfl))
    (try simp only [List.getElem_toArray, List.getElem_cons_succ, List.getElem_cons_zero, Act.put, List.setIfInBounds_toArray, List.set_cons_succ, List.set_cons_zero])
    refine wpAnyH_take (i := 14) (oi := _) (v := ?_) rfl (by kernel_rfl) (by kernel_rfl) (by kernel_rfl) (fun _ _ _ h => h) (Or.inl ⟨?_, ?_⟩) hH1 ?_
    rotate_left
    ·kernel_rfl
    ·(intro W' hSw; have f0 := keepc hSw b0; have f1 := keepc hSw b1; have f2 := keepc hSw b2; have f3 := keepc hSw b3; go_simp; (try with_reducible rfl))
    (try simp only [List.getElem_toArray, List.getElem_cons_succ, List.getElem_cons_zero, Act.put, List.setIfInBounds_toArray, List.set_cons_succ, List.set_cons_zero])
    refine wpAnyH_take (i := 15) (oi := _) (v := ?_) rfl (by kernel_rfl) (by kernel_rfl) (by kernel_rfl) (fun _ _ _ h => h) (Or.inl ⟨?_, ?_⟩) hH1 ?_
    rotate_left
    ·kernel_rfl
    ·(intro W' _; go_simp; (try with_reducible rfl))
    (try simp only [List.getElem_toArray, List.getElem_cons_succ, List.getElem_cons_zero, Act.put, List.setIfInBounds_toArray, List.set_cons_succ, List.set_cons_zero])
    refine wpAnyH_take (i := 16) (oi := _) (v := ?_) rfl (by kernel_rfl) (by kernel_rfl) (by kernel_rfl) (fun _ _ _ h => h) (Or.inl ⟨?_, ?_⟩) hH1 ?_
    rotate_left
    ·kernel_rfl
    ·(intro W' hSw; have f0 := keepc hSw b0; have f1 := keepc hSw b1; have f2 := keepc hSw b2; have f3 := keepc hSw b3; go_simp; (try with_reducible rfl))
    (try simp only [List.getElem_toArray, List.getElem_cons_succ, List.getElem_cons_zero, Act.put, List.setIfInBounds_toArray, List.set_cons_succ, List.set_cons_zero])
    refine wpAnyH_ready (rs := [17]) (by kernel_rfl) (by simp) ?_
    refine AllReadyH.cons (o := _) rfl (fun K hK => ?_) AllReadyH.nil
    go_simp
    refine (rmost o _).mono ?_
    rintro r w2 ⟨rfl, rfl⟩
    refine hK.out _ _ hH1 (fun hH2 => ?_)
    clear hK K
    (try simp only [List.getElem_toArray, List.getElem_cons_succ, List.getElem_cons_zero, Act.put, List.setIfInBounds_toArray, List.set_cons_succ, List.set_cons_zero])
    refine wpAnyH_take (i := 18) (oi := _) (v := ?_) rfl (by kernel_rfl) (by kernel_rfl) (by kernel_rfl) (fun _ _ _ h => h) (Or.inl ⟨?_, ?_⟩) hH2 ?_
    rotate_left
    ·kernel_rfl
    ·(intro W' _; go_simp; (try simp only [D1, E1, D2, D3, D4, E4, D5, E5, D6, E6, Bool.not_true, Bool.not_false]); (try with_reducible rfl))
    (try simp only [List.getElem_toArray, List.getElem_cons_succ, List.getElem_cons_zero, Act.put, List.setIfInBounds_toArray, List.set_cons_succ, List.set_cons_zero])
    refine wpAnyH_take (i := 19) (oi := _) (v := ?_) rfl (by kernel_rfl) (by kernel_rfl) (by kernel_rfl) (fun _ _ _ h => h) (Or.inl ⟨?_, ?_⟩) hH2 ?_
    rotate_left
    ·kernel_rfl
    ·(intro W' _; go_simp; (try simp only [D1, E1, D2, D3, D4, E4, D5, E5, D6, E6, Bool.not_true, Bool.not_false]); (try with_reducible rfl))
    (try simp only [List.getElem_toArray, List.getElem_cons_succ, List.getElem_cons_zero, Act.put, List.setIfInBounds_toArray, List.set_cons_succ, List.set_cons_zero])
    refine wpAnyH_take (i := 20) (oi := _) (v := ?_) rfl (by kernel_rfl) (by kernel_rfl) (by kernel_rfl) (fun _ _ _ h => h) (Or.inl ⟨?_, ?_⟩) hH2 ?_
    rotate_left
    ·kernel_rfl
    ·(intro W' _; go_simp; (try with_reducible rfl))
    (try simp only [List.getElem_toArray, List.getElem_cons_succ, List.getElem_cons_zero, Act.put, List.setIfInBounds_toArray, List.set_cons_succ, List.set_cons_zero])
    refine wpAnyH_take (i := 21) (oi := _) (v := undef) rfl (by kernel_rfl) (by kernel_rfl) (by kernel_rfl) (fun _ _ _ h => h) (Or.inr ⟨?_, rfl⟩) hH2 ?_
    ·kernel_rfl
    refine wpAnyH_take (i := 22) (oi := _) (v := undef) rfl (by kernel_rfl) (by kernel_rfl) (by kernel_rfl) (fun _ _ _ h => h) (Or.inr ⟨?_, rfl⟩) hH2 ?_
    ·kernel_rfl
    refine wpAnyH_take (i := 23) (oi := _) (v := undef) rfl (by kernel_rfl) (by kernel_rfl) (by kernel_rfl) (fun _ _ _ h => h) (Or.inr ⟨?_, rfl⟩) hH2 ?_
    ·kernel_rfl
    refine wpAnyH_take (i := 24) (oi := _) (v := undef) rfl (by kernel_rfl) (by kernel_rfl) (by kernel_rfl) (fun _ _ _ h => h) (Or.inr ⟨?_, rfl⟩) hH2 ?_
    ·kernel_rfl
    refine wpAnyH_take (i := 25) (oi := _) (v := undef) rfl (by kernel_rfl) (by kernel_rfl) (by kernel_rfl) (fun _ _ _ h => h) (Or.inr ⟨?_, rfl⟩) hH2 ?_
    ·kernel_rfl
    refine wpAnyH_take (i := 26) (oi := _) (v := undef) rfl (by kernel_rfl) (by kernel_rfl) (by kernel_rfl) (fun _ _ _ h => h) (Or.inr ⟨?_, rfl⟩) hH2 ?_
    ·kernel_rfl
    (try simp only [List.getElem_toArray, List.getElem_cons_succ, List.getElem_cons_zero, Act.put, List.setIfInBounds_toArray, List.set_cons_succ, List.set_cons_zero])
    refine wpAnyH_take (i := 27) (oi := _) (v := undef) rfl (by kernel_rfl) (by kernel_rfl) (by kernel_rfl) (fun _ _ _ h => h) (Or.inr ⟨?_, rfl⟩) hH2 ?_
    ·kernel_rfl
    refine wpAnyH_take (i := 28) (oi := _) (v := undef) rfl (by kernel_rfl) (by kernel_rfl) (by kernel_rfl) (fun _ _ _ h => h) (Or.inr ⟨?_, rfl⟩) hH2 ?_
    ·kernel_rfl
    (try simp only [List.getElem_toArray, List.getElem_cons_succ, List.getElem_cons_zero, Act.put, List.setIfInBounds_toArray, List.set_cons_succ, List.set_cons_zero])
    refine wpAnyH_take (i := 29) (oi := _) (v := ?_) rfl (by kernel_rfl) (by kernel_rfl) (by kernel_rfl) (fun _ _ _ h => h) (Or.inl ⟨?_, ?_⟩) hH2 ?_
    rotate_left
    ·kernel_rfl
    ·(intro W' _; go_simp; (try simp only [D1, E1, D2, D3, D4, E4, D5, E5, D6, E6, Bool.not_true, Bool.not_false]); (try with_reducible rfl))
    (try simp only [List.getElem_toArray, List.getElem_cons_succ, List.getElem_cons_zero, Act.put, List.setIfInBounds_toArray, List.set_cons_succ, List.set_cons_zero])
    refine wpAnyH_done (by kernel_rfl) ?_ _
    go_wp2_with fail
    go_ret
    exact ⟨by rw [HF.out]; rfl, btr hb2 hH2⟩
   ·rw [decide_eq_true h1, decide_eq_true (show 0 ≤ v by omega), decide_eq_true (show v ≤ most o by omega), Bool.true_and, Bool.true_and, Bool.true_and] at hR
    by_cases h4 : o = 4
    ·have HR0 : Hid (R = l.all right) := Lib.hid (by rw [← hR, decide_eq_true h4]; rfl)
     have D1 : ((n : Int) == opn o) = true := by first | (rw [beq_iff_eq]; exact h1) | (rw [beq_eq_false_iff_ne]; exact h1)
     have E1 : ((n : Int) != opn o) = false := by rw [bne, D1]; rfl
     have D2 : decide (v < 0) = false := by simp; omega
     have D3 : decide (most o < v) = false := by simp; omega
     have D4 : (o == 4) = true := by first | (rw [beq_iff_eq]; exact h4) | (rw [beq_eq_false_iff_ne]; exact h4)
     have E4 : (o != 4) = false := by rw [bne, D4]; rfl
     have D5 := trivial
     have E5 := trivial
     have D6 := trivial
     have E6 := trivial
     clear hR h1 h2 h3 h4
     go_enter Tryz.func69, Tryz.ntmps69
     go_wp2_with fail
     obtain ⟨W2, hW2⟩ : ∃ W2, (w.alloc (.cells #[.int .i64 o, .int .i64 v, .string X, .slice so n cap] 24)) = W2 := ⟨_, rfl⟩
     have hb2 : Below w.heap.size w W2 := by rw [← hW2]; exact bal (bref _) _
     have b0 : W2.cell? ⟨w.heap.size, 0, none⟩ = some (.int .i64 o) := by rw [← hW2]; simp [go_sem]
     have b1 : W2.cell? ⟨w.heap.size, 1, none⟩ = some (.int .i64 v) := by rw [← hW2]; simp [go_sem]
     have b2 : W2.cell? ⟨w.heap.size, 2, none⟩ = some (.string X) := by rw [← hW2]; simp [go_sem]
     have b3 : W2.cell? ⟨w.heap.size, 3, none⟩ = some (.slice so n cap) := by rw [← hW2]; simp [go_sem]
     rw [hW2]
     clear hW2
     refine wp_region_held_drew (S := (fun W => Below W2.heap.size W2 W)) (by kernel_rfl) (bdr (bref _)) (fun hH0 => ?_)
     refine wpAnyH_take (i := 0) (oi := _) (v := ?_) rfl (by kernel_rfl) (by kernel_rfl) (by kernel_rfl) (fun _ _ _ h => h) (Or.inl ⟨?_, ?_⟩) hH0 ?_
     rotate_left
     ·kernel_rfl
     ·(intro W' _; go_simp; (try with_reducible rfl))
     (try simp only [List.getElem_toArray, List.getElem_cons_zero, Act.put, List.setIfInBounds_toArray, List.set_cons_succ, List.set_cons_zero])
     refine wpAnyH_take (i := 1) (oi := _) (v := ?_) rfl (by kernel_rfl) (by kernel_rfl) (by kernel_rfl) (fun _ _ _ h => h) (Or.inl ⟨?_, ?_⟩) hH0 ?_
     rotate_left
     ·kernel_rfl
     ·(intro W' hSw; have f0 := keepc hSw b0; have f1 := keepc hSw b1; have f2 := keepc hSw b2; have f3 := keepc hSw b3; go_simp; (try with_reducible rfl))
     (try simp only [List.getElem_toArray, List.getElem_cons_succ, List.getElem_cons_zero, Act.put, List.setIfInBounds_toArray, List.set_cons_succ, List.set_cons_zero])
     refine wpAnyH_take (i := 2) (oi := _) (v := ?_) rfl (by kernel_rfl) (by kernel_rfl) (by kernel_rfl) (fun _ _ _ h => h) (Or.inl ⟨?_, ?_⟩) hH0 ?_
     rotate_left
     ·kernel_rfl
     ·(intro W' _; go_simp; (try simp only [D1, E1, D2, D3, D4, E4, D5, E5, D6, E6, Bool.not_true, Bool.not_false]); (try with_reducible rfl))
     (try simp only [List.getElem_toArray, List.getElem_cons_succ, List.getElem_cons_zero, Act.put, List.setIfInBounds_toArray, List.set_cons_succ, List.set_cons_zero])
     refine wpAnyH_take (i := 3) (oi := _) (v := ?_) rfl (by kernel_rfl) (by kernel_rfl) (by kernel_rfl) (fun _ _ _ h => h) (Or.inl ⟨?_, ?_⟩) hH0 ?_
     rotate_left
     ·kernel_rfl
     ·(intro W' _; go_simp; (try with_reducible rfl))
     (try simp only [List.getElem_toArray, List.getElem_cons_succ, List.getElem_cons_zero, Act.put, List.setIfInBounds_toArray, List.set_cons_succ, List.set_cons_zero])
     refine wpAnyH_take (i := 4) (oi := _) (v := ?_) rfl (by kernel_rfl) (by kernel_rfl) (by kernel_rfl) (fun _ _ _ h => h) (Or.inl ⟨?_, ?_⟩) hH0 ?_
     rotate_left
     ·kernel_rfl
     ·(intro W' hSw; have f0 := keepc hSw b0; have f1 := keepc hSw b1; have f2 := keepc hSw b2; have f3 := keepc hSw b3; go_simp; (try with_reducible rfl))
     (try simp only [List.getElem_toArray, List.getElem_cons_succ, List.getElem_cons_zero, Act.put, List.setIfInBounds_toArray, List.set_cons_succ, List.set_cons_zero])
     refine wpAnyH_ready (rs := [5]) (by kernel_rfl) (by simp) ?_
     refine AllReadyH.cons (o := _) rfl (fun K hK => ?_) AllReadyH.nil
     go_simp
     refine (roperands o _).mono ?_
     rintro r w1 ⟨rfl, rfl⟩
     refine hK.out _ _ hH0 (fun hH1 => ?_)
     clear hK K
     (try simp only [List.getElem_toArray, List.getElem_cons_succ, List.getElem_cons_zero, Act.put, List.setIfInBounds_toArray, List.set_cons_succ, List.set_cons_zero])
     refine wpAnyH_take (i := 6) (oi := _) (v := ?_) rfl (by kernel_rfl) (by kernel_rfl) (by kernel_rfl) (fun _ _ _ h => h) (Or.inl ⟨?_, ?_⟩) hH1 ?_
     rotate_left
     ·kernel_rfl
     ·(intro W' _; go_simp; (try simp only [D1, E1, D2, D3, D4, E4, D5, E5, D6, E6, Bool.not_true, Bool.not_false]); (try with_reducible rfl))
     (try simp only [List.getElem_toArray, List.getElem_cons_succ, List.getElem_cons_zero, Act.put, List.setIfInBounds_toArray, List.set_cons_succ, List.set_cons_zero])
     refine wpAnyH_take (i := 7) (oi := _) (v := ?_) rfl (by kernel_rfl) (by kernel_rfl) (by kernel_rfl) (fun _ _ _ h => h) (Or.inl ⟨?_, ?_⟩) hH1 ?_
     rotate_left
     ·kernel_rfl
     ·(intro W' _; go_simp; (try with_reducible rfl))
     (try simp only [List.getElem_toArray, List.getElem_cons_succ, List.getElem_cons_zero, Act.put, List.setIfInBounds_toArray, List.set_cons_succ, List.set_cons_zero])
     refine wpAnyH_take (i := 8) (oi := _) (v := ?_) rfl (by kernel_rfl) (by kernel_rfl) (by kernel_rfl) (fun _ _ _ h => h) (Or.inl ⟨?_, ?_⟩) hH1 ?_
     rotate_left
     ·kernel_rfl
     ·(intro W' _; go_simp; (try with_reducible rfl))
     (try simp only [List.getElem_toArray, List.getElem_cons_succ, List.getElem_cons_zero, Act.put, List.setIfInBounds_toArray, List.set_cons_succ, List.set_cons_zero])
     refine wpAnyH_take (i := 9) (oi := _) (v := ?_) rfl (by kernel_rfl) (by kernel_rfl) (by kernel_rfl) (fun _ _ _ h => h) (Or.inl ⟨?_, ?_⟩) hH1 ?_
     rotate_left
     ·kernel_rfl
     ·(intro W' hSw; have f0 := keepc hSw b0; have f1 := keepc hSw b1; have f2 := keepc hSw b2; have f3 := keepc hSw b3; go_simp; (try with_reducible rfl))
     (try simp only [List.getElem_toArray, List.getElem_cons_succ, List.getElem_cons_zero, Act.put, List.setIfInBounds_toArray, List.set_cons_succ, List.set_cons_zero])
     refine wpAnyH_take (i := 10) (oi := _) (v := ?_) rfl (by kernel_rfl) (by kernel_rfl) (by kernel_rfl) (fun _ _ _ h => h) (Or.inl ⟨?_, ?_⟩) hH1 ?_
     rotate_left
     ·kernel_rfl
     ·(intro W' _; go_simp; (try simp only [D1, E1, D2, D3, D4, E4, D5, E5, D6, E6, Bool.not_true, Bool.not_false]); (try with_reducible rfl))
     (try simp only [List.getElem_toArray, List.getElem_cons_succ, List.getElem_cons_zero, Act.put, List.setIfInBounds_toArray, List.set_cons_succ, List.set_cons_zero])
     refine wpAnyH_take (i := 11) (oi := _) (v := ?_) rfl (by kernel_rfl) (by kernel_rfl) (by kernel_rfl) (fun _ _ _ h => h) (Or.inl ⟨?_, ?_⟩) hH1 ?_
     rotate_left
     ·kernel_rfl
     ·(intro W' _; go_simp; (try simp only [D1, E1, D2, D3, D4, E4, D5, E5, D6, E6, Bool.not_true, Bool.not_false]); (try with_reducible rfl))
     (try simp only [List.getElem_toArray, List.getElem_cons_succ, List.getElem_cons_zero, Act.put, List.setIfInBounds_toArray, List.set_cons_succ, List.set_cons_zero])
     refine wpAnyH_take (i := 12) (oi := _) (v := ?_) rfl (by kernel_rfl) (by kernel_rfl) (by kernel_rfl) (fun _ _ _ h => h) (Or.inl ⟨?_, ?_⟩) hH1 ?_
     rotate_left
     ·kernel_rfl
     ·(intro W' _; go_simp; (try with_reducible rfl))
     (try simp only [List.getElem_toArray, List.getElem_cons_succ, List.getElem_cons_zero, Act.put, List.setIfInBounds_toArray, List.set_cons_succ, List.set_cons_zero])
     refine wpAnyH_take (i := 13) (oi := _) (v := ?_) rfl (by kernel_rfl) (by kernel_rfl) (by kernel_rfl) (fun _ _ _ h => h) (Or.inl ⟨?_, ?_⟩) hH1 ?_
     rotate_left
     ·kernel_rfl
     ·(intro W' _; go_simp; (try with_reducible rfl))
     (try simp only [List.getElem_toArray, List.getElem_cons_succ, List.getElem_cons_zero, Act.put, List.setIfInBounds_toArray, List.set_cons_succ, List.set_cons_zero])
     refine wpAnyH_take (i := 14) (oi := _) (v := ?_) rfl (by kernel_rfl) (by kernel_rfl) (by kernel_rfl) (fun _ _ _ h => h) (Or.inl ⟨?_, ?_⟩) hH1 ?_
     rotate_left
     ·kernel_rfl
     ·(intro W' hSw; have f0 := keepc hSw b0; have f1 := keepc hSw b1; have f2 := keepc hSw b2; have f3 := keepc hSw b3; go_simp; (try with_reducible rfl))
     (try simp only [List.getElem_toArray, List.getElem_cons_succ, List.getElem_cons_zero, Act.put, List.setIfInBounds_toArray, List.set_cons_succ, List.set_cons_zero])
     refine wpAnyH_take (i := 15) (oi := _) (v := ?_) rfl (by kernel_rfl) (by kernel_rfl) (by kernel_rfl) (fun _ _ _ h => h) (Or.inl ⟨?_, ?_⟩) hH1 ?_
     rotate_left
     ·kernel_rfl
     ·(intro W' _; go_simp; (try with_reducible rfl))
     (try simp only [List.getElem_toArray, List.getElem_cons_succ, List.getElem_cons_zero, Act.put, List.setIfInBounds_toArray, List.set_cons_succ, List.set_cons_zero])
     refine wpAnyH_take (i := 16) (oi := _) (v := ?_) rfl (by kernel_rfl) (by kernel_rfl) (by kernel_rfl) (fun _ _ _ h => h) (Or.inl ⟨?_, ?_⟩) hH1 ?_
     rotate_left
     ·kernel_rfl
     ·(intro W' hSw; have f0 := keepc hSw b0; have f1 := keepc hSw b1; have f2 := keepc hSw b2; have f3 := keepc hSw b3; go_simp; (try with_reducible rfl))
     (try simp only [List.getElem_toArray, List.getElem_cons_succ, List.getElem_cons_zero, Act.put, List.setIfInBounds_toArray, List.set_cons_succ, List.set_cons_zero])
     refine wpAnyH_ready (rs := [17]) (by kernel_rfl) (by simp) ?_
     refine AllReadyH.cons (o := _) rfl (fun K hK => ?_) AllReadyH.nil
     go_simp
     refine (rmost o _).mono ?_
     rintro r w2 ⟨rfl, rfl⟩
     refine hK.out _ _ hH1 (fun hH2 => ?_)
     clear hK K
     (try simp only [List.getElem_toArray, List.getElem_cons_succ, List.getElem_cons_zero, Act.put, List.setIfInBounds_toArray, List.set_cons_succ, List.set_cons_zero])
     refine wpAnyH_take (i := 18) (oi := _) (v := ?_) rfl (by kernel_rfl) (by kernel_rfl) (by kernel_rfl) (fun _ _ _ h => h) (Or.inl ⟨?_, ?_⟩) hH2 ?_
     rotate_left
     ·kernel_rfl
     ·(intro W' _; go_simp; (try simp only [D1, E1, D2, D3, D4, E4, D5, E5, D6, E6, Bool.not_true, Bool.not_false]); (try with_reducible rfl))
     (try simp only [List.getElem_toArray, List.getElem_cons_succ, List.getElem_cons_zero, Act.put, List.setIfInBounds_toArray, List.set_cons_succ, List.set_cons_zero])
     refine wpAnyH_take (i := 19) (oi := _) (v := ?_) rfl (by kernel_rfl) (by kernel_rfl) (by kernel_rfl) (fun _ _ _ h => h) (Or.inl ⟨?_, ?_⟩) hH2 ?_
     rotate_left
     ·kernel_rfl
     ·(intro W' _; go_simp; (try simp only [D1, E1, D2, D3, D4, E4, D5, E5, D6, E6, Bool.not_true, Bool.not_false]); (try with_reducible rfl))
     (try simp only [List.getElem_toArray, List.getElem_cons_succ, List.getElem_cons_zero, Act.put, List.setIfInBounds_toArray, List.set_cons_succ, List.set_cons_zero])
     refine wpAnyH_take (i := 20) (oi := _) (v := ?_) rfl (by kernel_rfl) (by kernel_rfl) (by kernel_rfl) (fun _ _ _ h => h) (Or.inl ⟨?_, ?_⟩) hH2 ?_
     rotate_left
     ·kernel_rfl
     ·(intro W' _; go_simp; (try with_reducible rfl))
     (try simp only [List.getElem_toArray, List.getElem_cons_succ, List.getElem_cons_zero, Act.put, List.setIfInBounds_toArray, List.set_cons_succ, List.set_cons_zero])
     refine wpAnyH_take (i := 21) (oi := _) (v := ?_) rfl (by kernel_rfl) (by kernel_rfl) (by kernel_rfl) (fun _ _ _ h => h) (Or.inl ⟨?_, ?_⟩) hH2 ?_
     rotate_left
     ·kernel_rfl
     ·(intro W' _; go_simp; (try with_reducible rfl))
     (try simp only [List.getElem_toArray, List.getElem_cons_succ, List.getElem_cons_zero, Act.put, List.setIfInBounds_toArray, List.set_cons_succ, List.set_cons_zero])
     refine wpAnyH_take (i := 22) (oi := _) (v := ?_) rfl (by kernel_rfl) (by kernel_rfl) (by kernel_rfl) (fun _ _ _ h => h) (Or.inl ⟨?_, ?_⟩) hH2 ?_
     rotate_left
     ·kernel_rfl
     ·(intro W' hSw; have f0 := keepc hSw b0; have f1 := keepc hSw b1; have f2 := keepc hSw b2; have f3 := keepc hSw b3; go_simp; (try with_reducible rfl))
     (try simp only [List.getElem_toArray, List.getElem_cons_succ, List.getElem_cons_zero, Act.put, List.setIfInBounds_toArray, List.set_cons_succ, List.set_cons_zero])
     refine wpAnyH_take (i := 23) (oi := _) (v := ?_) rfl (by kernel_rfl) (by kernel_rfl) (by kernel_rfl) (fun _ _ _ h => h) (Or.inl ⟨?_, ?_⟩) hH2 ?_
     rotate_left
     ·kernel_rfl
     ·(intro W' _; go_simp; (try simp only [D1, E1, D2, D3, D4, E4, D5, E5, D6, E6, Bool.not_true, Bool.not_false]); (try with_reducible rfl))
     (try simp only [List.getElem_toArray, List.getElem_cons_succ, List.getElem_cons_zero, Act.put, List.setIfInBounds_toArray, List.set_cons_succ, List.set_cons_zero])
     refine wpAnyH_take (i := 24) (oi := _) (v := ?_) rfl (by kernel_rfl) (by kernel_rfl) (by kernel_rfl) (fun _ _ _ h => h) (Or.inl ⟨?_, ?_⟩) hH2 ?_
     rotate_left
     ·kernel_rfl
     ·(intro W' _; go_simp; (try with_reducible rfl))
     (try simp only [List.getElem_toArray, List.getElem_cons_succ, List.getElem_cons_zero, Act.put, List.setIfInBounds_toArray, List.set_cons_succ, List.set_cons_zero])
     refine wpAnyH_take (i := 25) (oi := _) (v := undef) rfl (by kernel_rfl) (by kernel_rfl) (by kernel_rfl) (fun _ _ _ h => h) (Or.inr ⟨?_, rfl⟩) hH2 ?_
     ·kernel_rfl
     refine wpAnyH_take (i := 26) (oi := _) (v := undef) rfl (by kernel_rfl) (by kernel_rfl) (by kernel_rfl) (fun _ _ _ h => h) (Or.inr ⟨?_, rfl⟩) hH2 ?_
     ·kernel_rfl
     refine wpAnyH_take (i := 27) (oi := _) (v := undef) rfl (by kernel_rfl) (by kernel_rfl) (by kernel_rfl) (fun _ _ _ h => h) (Or.inr ⟨?_, rfl⟩) hH2 ?_
     ·kernel_rfl
     (try simp only [List.getElem_toArray, List.getElem_cons_succ, List.getElem_cons_zero, Act.put, List.setIfInBounds_toArray, List.set_cons_succ, List.set_cons_zero])
     refine wpAnyH_take (i := 28) (oi := _) (v := ?_) rfl (by kernel_rfl) (by kernel_rfl) (by kernel_rfl) (fun _ _ _ h => h) (Or.inl ⟨?_, ?_⟩) hH2 ?_
     rotate_left
     ·kernel_rfl
     ·(intro W' _; go_simp; (try simp only [D1, E1, D2, D3, D4, E4, D5, E5, D6, E6, Bool.not_true, Bool.not_false]); (try with_reducible rfl))
     (try simp only [List.getElem_toArray, List.getElem_cons_succ, List.getElem_cons_zero, Act.put, List.setIfInBounds_toArray, List.set_cons_succ, List.set_cons_zero])
     refine wpAnyH_take (i := 29) (oi := _) (v := ?_) rfl (by kernel_rfl) (by kernel_rfl) (by kernel_rfl) (fun _ _ _ h => h) (Or.inl ⟨?_, ?_⟩) hH2 ?_
     rotate_left
     ·kernel_rfl
     ·(intro W' _; go_simp; (try simp only [D1, E1, D2, D3, D4, E4, D5, E5, D6, E6, Bool.not_true, Bool.not_false]); (try with_reducible rfl))
     (try simp only [List.getElem_toArray, List.getElem_cons_succ, List.getElem_cons_zero, Act.put, List.setIfInBounds_toArray, List.set_cons_succ, List.set_cons_zero])
     refine wpAnyH_done (by kernel_rfl) ?_ _
     go_wp2_with fail
     have hbz := btr hb2 hH2
     have cz := keepc hH2 b3
     clear b0 b1 b2 b3
     go_loopw [3] (fun i wr => ∃ (k : Nat), k ≤ n ∧ i = .int .i64 k ∧ (l.take k).all right = true ∧ wr.cell? ⟨w.heap.size, 3, none⟩ = some (.slice so n cap) ∧ Below w.heap.size w wr) (fun i _ => n - (RowKit.intOf i).toNat)
     case atStart => exact ⟨0, by omega, rfl, rfl, cz, hbz⟩
     case round =>
      obtain ⟨k, hk, rfl, hq, hc, hB⟩ := hrel
      have HQ := Lib.hid hq
      have HB := Lib.hid hB
      clear hq hB cz hbz
      have hnb : n ≤ 100000 := by have h1 := sizs_len l; have h2 := HM.out; have h3 := HN.out; omega
      by_cases hlt : k < n
      ·have hkz : (k : Int) < (n : Int) := by omega
       obtain ⟨b, off, so2, cap2, rfl, hb, c0, c1, c2, c3, hs, _⟩ := (HT.out.keep HB.out).at k (by rw [HN.out]; exact hlt)
       have C0 := Lib.hid (fun W (hW : Below wr.heap.size wr W) => IH.out (l.getD k E0) (getD_mem'' _ _ _ (by rw [HN.out]; exact hlt)) so2 cap2 W (by have h1 := siz_mem (getD_mem'' E0 l k (by rw [HN.out]; exact hlt)); have h2 := HM.out; omega) (hs.keep hW))
       have HNX := Lib.hid (fun (hf : right (l.getD k E0) = false) => all_false_at l k (by rw [HN.out]; exact hlt) hf)
       have HNY := Lib.hid (fun (hf : right (l.getD k E0) = true) => all_next l k (by rw [HN.out]; exact hlt) HQ.out hf)
       obtain ⟨x, hx⟩ : ∃ x, l.getD k E0 = x := ⟨_, rfl⟩
       rw [hx] at c0 c1 c2 c3 C0 HNX HNY
       clear hs hx
       cases hrx : right x with
       | false =>
        rw [hrx] at C0
        have HF : Hid (R = false) := Lib.hid (by rw [HR0.out]; exact HNX.out hrx)
        clear hrx HNX HNY
        go_wp2_with (go_at_call 69; refine (C0.out _ (by first | exact bref _ | exact bdr (bref _))).mono ?_; rintro r w1 ⟨rfl, hb1⟩)
        go_ret
        exact ⟨by rw [HF.out]; rfl, btr HB.out hb1⟩
       | true =>
        rw [hrx] at C0
        have HA := Lib.hid (HNY.out hrx)
        clear hrx HNX HNY
        go_wp2_with (go_at_call 69; refine (C0.out _ (by first | exact bref _ | exact bdr (bref _))).mono ?_; rintro r w1 ⟨rfl, hb1⟩)
        go_roundw
        case rel => exact ⟨k + 1, by omega, by go_num, HA.out, keepc hb1 hc, btr HB.out hb1⟩
        case measure => simp [RowKit.intOf]; omega
      ·have he : k = n := by omega
       subst he
       have HF : Hid (R = true) := Lib.hid (by have q1 := HQ.out; have h3 := HN.out; rw [List.take_of_length_le (by omega)] at q1; rw [HR0.out]; exact q1)
       go_wp2_with fail
       go_ret
       exact ⟨by rw [HF.out]; rfl, HB.out⟩
    ·rw [decide_eq_false h4, Bool.false_or] at hR
     cases h5 : s.isEmpty with
     | false =>
      have HF : Hid (R = false) := Lib.hid (by rw [← hR, h5]; rfl)
      have D1 : ((n : Int) == opn o) = true := by first | (rw [beq_iff_eq]; exact h1) | (rw [beq_eq_false_iff_ne]; exact h1)
      have E1 : ((n : Int) != opn o) = false := by rw [bne, D1]; rfl
      have D2 : decide (v < 0) = false := by simp; omega
      have D3 : decide (most o < v) = false := by simp; omega
      have D4 : (o == 4) = false := by first | (rw [beq_iff_eq]; exact h4) | (rw [beq_eq_false_iff_ne]; exact h4)
      have E4 : (o != 4) = true := by rw [bne, D4]; rfl
      have D5 : X.toList.isEmpty = false := by rw [← HX.out, str_isEmpty]; exact h5
      have E5 : (X.toList == []) = false := by rw [← D5]; cases X.toList <;> rfl
      have D6 : (X.toList != []) = true := by rw [bne, E5]; rfl
      have E6 : decide (X.toList = []) = false := by rw [← E5]; cases X.toList <;> rfl
      clear hR h1 h2 h3 h4 h5
      go_enter Tryz.func69, Tryz.ntmps69
      go_wp2_with fail
      obtain ⟨W2, hW2⟩ : ∃ W2, (w.alloc (.cells #[.int .i64 o, .int .i64 v, .string X, .slice so n cap] 24)) = W2 := ⟨_, rfl⟩
      have hb2 : Below w.heap.size w W2 := by rw [← hW2]; exact bal (bref _) _
      have b0 : W2.cell? ⟨w.heap.size, 0, none⟩ = some (.int .i64 o) := by rw [← hW2]; simp [go_sem]
      have b1 : W2.cell? ⟨w.heap.size, 1, none⟩ = some (.int .i64 v) := by rw [← hW2]; simp [go_sem]
      have b2 : W2.cell? ⟨w.heap.size, 2, none⟩ = some (.string X) := by rw [← hW2]; simp [go_sem]
      have b3 : W2.cell? ⟨w.heap.size, 3, none⟩ = some (.slice so n cap) := by rw [← hW2]; simp [go_sem]
      rw [hW2]
      clear hW2
      refine wp_region_held_drew (S := (fun W => Below W2.heap.size W2 W)) (by kernel_rfl) (bdr (bref _)) (fun hH0 => ?_)
      refine wpAnyH_take (i := 0) (oi := _) (v := ?_) rfl (by kernel_rfl) (by kernel_rfl) (by kernel_rfl) (fun _ _ _ h => h) (Or.inl ⟨?_, ?_⟩) hH0 ?_
      rotate_left
      ·kernel_rfl
      ·(intro W' _; go_simp; (try with_reducible rfl))
      (try simp only [List.getElem_toArray, List.getElem_cons_zero, Act.put, List.setIfInBounds_toArray, List.set_cons_succ, List.set_cons_zero])
      refine wpAnyH_take (i := 1) (oi := _) (v := ?_) rfl (by kernel_rfl) (by kernel_rfl) (by kernel_rfl) (fun _ _ _ h => h) (Or.inl ⟨?_, ?_⟩) hH0 ?_
      rotate_left
      ·kernel_rfl
      ·(intro W' hSw; have f0 := keepc hSw b0; have f1 := keepc hSw b1; have f2 := keepc hSw b2; have f3 := keepc hSw b3; go_simp; (try with_reducible rfl))
      (try simp only [List.getElem_toArray, List.getElem_cons_succ, List.getElem_cons_zero, Act.put, List.setIfInBounds_toArray, List.set_cons_succ, List.set_cons_zero])
      refine wpAnyH_take (i := 2) (oi := _) (v := ?_) rfl (by kernel_rfl) (by kernel_rfl) (by kernel_rfl) (fun _ _ _ h => h) (Or.inl ⟨?_, ?_⟩) hH0 ?_
      rotate_left
      ·kernel_rfl
      ·(intro W' _; go_simp; (try simp only [D1, E1, D2, D3, D4, E4, D5, E5, D6, E6, Bool.not_true, Bool.not_false]); (try with_reducible rfl))
      (try simp only [List.getElem_toArray, List.getElem_cons_succ, List.getElem_cons_zero, Act.put, List.setIfInBounds_toArray, List.set_cons_succ, List.set_cons_zero])
      refine wpAnyH_take (i := 3) (oi := _) (v := ?_) rfl (by kernel_rfl) (by kernel_rfl) (by kernel_rfl) (fun _ _ _ h => h) (Or.inl ⟨?_, ?_⟩) hH0 ?_
      rotate_left
      ·kernel_rfl
      ·(intro W' _; go_simp; (try with_reducible rfl))
      (try simp only [List.getElem_toArray, List.getElem_cons_succ, List.getElem_cons_zero, Act.put, List.setIfInBounds_toArray, List.set_cons_succ, List.set_cons_zero])
      refine wpAnyH_take (i := 4) (oi := _) (v := ?_) rfl (by kernel_rfl) (by kernel_rfl) (by kernel_rfl) (fun _ _ _ h => h) (Or.inl ⟨?_, ?_⟩) hH0 ?_
      rotate_left
      ·kernel_rfl
      ·(intro W' hSw; have f0 := keepc hSw b0; have f1 := keepc hSw b1; have f2 := keepc hSw b2; have f3 := keepc hSw b3; go_simp; (try with_reducible rfl))
      (try simp only [List.getElem_toArray, List.getElem_cons_succ, List.getElem_cons_zero, Act.put, List.setIfInBounds_toArray, List.set_cons_succ, List.set_cons_zero])
      refine wpAnyH_ready (rs := [5]) (by kernel_rfl) (by simp) ?_
      refine AllReadyH.cons (o := _) rfl (fun K hK => ?_) AllReadyH.nil
      go_simp
      refine (roperands o _).mono ?_
      rintro r w1 ⟨rfl, rfl⟩
      refine hK.out _ _ hH0 (fun hH1 => ?_)
      clear hK K
      (try simp only [List.getElem_toArray, List.getElem_cons_succ, List.getElem_cons_zero, Act.put, List.setIfInBounds_toArray, List.set_cons_succ, List.set_cons_zero])
      refine wpAnyH_take (i := 6) (oi := _) (v := ?_) rfl (by kernel_rfl) (by kernel_rfl) (by kernel_rfl) (fun _ _ _ h => h) (Or.inl ⟨?_, ?_⟩) hH1 ?_
      rotate_left
      ·kernel_rfl
      ·(intro W' _; go_simp; (try simp only [D1, E1, D2, D3, D4, E4, D5, E5, D6, E6, Bool.not_true, Bool.not_false]); (try with_reducible rfl))
      (try simp only [List.getElem_toArray, List.getElem_cons_succ, List.getElem_cons_zero, Act.put, List.setIfInBounds_toArray, List.set_cons_succ, List.set_cons_zero])
      refine wpAnyH_take (i := 7) (oi := _) (v := ?_) rfl (by kernel_rfl) (by kernel_rfl) (by kernel_rfl) (fun _ _ _ h => h) (Or.inl ⟨?_, ?_⟩) hH1 ?_
      rotate_left
      ·kernel_rfl
      ·(intro W' _; go_simp; (try with_reducible rfl))
      (try simp only [List.getElem_toArray, List.getElem_cons_succ, List.getElem_cons_zero, Act.put, List.setIfInBounds_toArray, List.set_cons_succ, List.set_cons_zero])
      refine wpAnyH_take (i := 8) (oi := _) (v := ?_) rfl (by kernel_rfl) (by kernel_rfl) (by kernel_rfl) (fun _ _ _ h => h) (Or.inl ⟨?_, ?_⟩) hH1 ?_
      rotate_left
      ·kernel_rfl
      ·(intro W' _; go_simp; (try with_reducible rfl))
      (try simp only [List.getElem_toArray, List.getElem_cons_succ, List.getElem_cons_zero, Act.put, List.setIfInBounds_toArray, List.set_cons_succ, List.set_cons_zero])
      refine wpAnyH_take (i := 9) (oi := _) (v := ?_) rfl (by kernel_rfl) (by kernel_rfl) (by kernel_rfl) (fun _ _ _ h => h) (Or.inl ⟨?_, ?_⟩) hH1 ?_
      rotate_left
      ·kernel_rfl
      ·(intro W' hSw; have f0 := keepc hSw b0; have f1 := keepc hSw b1; have f2 := keepc hSw b2; have f3 := keepc hSw b3; go_simp; (try with_reducible rfl))
      (try simp only [List.getElem_toArray, List.getElem_cons_succ, List.getElem_cons_zero, Act.put, List.setIfInBounds_toArray, List.set_cons_succ, List.set_cons_zero])
      refine wpAnyH_take (i := 10) (oi := _) (v := ?_) rfl (by kernel_rfl) (by kernel_rfl) (by kernel_rfl) (fun _ _ _ h => h) (Or.inl ⟨?_, ?_⟩) hH1 ?_
      rotate_left
      ·kernel_rfl
      ·(intro W' _; go_simp; (try simp only [D1, E1, D2, D3, D4, E4, D5, E5, D6, E6, Bool.not_true, Bool.not_false]); (try with_reducible rfl))
      (try simp only [List.getElem_toArray, List.getElem_cons_succ, List.getElem_cons_zero, Act.put, List.setIfInBounds_toArray, List.set_cons_succ, List.set_cons_zero])
      refine wpAnyH_take (i := 11) (oi := _) (v := ?_) rfl (by kernel_rfl) (by kernel_rfl) (by kernel_rfl) (fun _ _ _ h => h) (Or.inl ⟨?_, ?_⟩) hH1 ?_
      rotate_left
      ·kernel_rfl
      ·(intro W' _; go_simp; (try simp only [D1, E1, D2, D3, D4, E4, D5, E5, D6, E6, Bool.not_true, Bool.not_false]); (try with_reducible rfl))
      (try simp only [List.getElem_toArray, List.getElem_cons_succ, List.getElem_cons_zero, Act.put, List.setIfInBounds_toArray, List.set_cons_succ, List.set_cons_zero])
      refine wpAnyH_take (i := 12) (oi := _) (v := ?_) rfl (by kernel_rfl) (by kernel_rfl) (by kernel_rfl) (fun _ _ _ h => h) (Or.inl ⟨?_, ?_⟩) hH1 ?_
      rotate_left
      ·kernel_rfl
      ·(intro W' _; go_simp; (try with_reducible rfl))
      (try simp only [List.getElem_toArray, List.getElem_cons_succ, List.getElem_cons_zero, Act.put, List.setIfInBounds_toArray, List.set_cons_succ, List.set_cons_zero])
      refine wpAnyH_take (i := 13) (oi := _) (v := ?_) rfl (by kernel_rfl) (by kernel_rfl) (by kernel_rfl) (fun _ _ _ h => h) (Or.inl ⟨?_, ?_⟩) hH1 ?_
      rotate_left
      ·kernel_rfl
      ·(intro W' _; go_simp; (try with_reducible rfl))
      (try simp only [List.getElem_toArray, List.getElem_cons_succ, List.getElem_cons_zero, Act.put, List.setIfInBounds_toArray, List.set_cons_succ, List.set_cons_zero])
      refine wpAnyH_take (i := 14) (oi := _) (v := ?_) rfl (by kernel_rfl) (by kernel_rfl) (by kernel_rfl) (fun _ _ _ h => h) (Or.inl ⟨?_, ?_⟩) hH1 ?_
      rotate_left
      ·kernel_rfl
      ·(intro W' hSw; have f0 := keepc hSw b0; have f1 := keepc hSw b1; have f2 := keepc hSw b2; have f3 := keepc hSw b3; go_simp; (try with_reducible rfl))
      (try simp only [List.getElem_toArray, List.getElem_cons_succ, List.getElem_cons_zero, Act.put, List.setIfInBounds_toArray, List.set_cons_succ, List.set_cons_zero])
      refine wpAnyH_take (i := 15) (oi := _) (v := ?_) rfl (by kernel_rfl) (by kernel_rfl) (by kernel_rfl) (fun _ _ _ h => h) (Or.inl ⟨?_, ?_⟩) hH1 ?_
      rotate_left
      ·kernel_rfl
      ·(intro W' _; go_simp; (try with_reducible rfl))
      (try simp only [List.getElem_toArray, List.getElem_cons_succ, List.getElem_cons_zero, Act.put, List.setIfInBounds_toArray, List.set_cons_succ, List.set_cons_zero])
      refine wpAnyH_take (i := 16) (oi := _) (v := ?_) rfl (by kernel_rfl) (by kernel_rfl) (by kernel_rfl) (fun _ _ _ h => h) (Or.inl ⟨?_, ?_⟩) hH1 ?_
      rotate_left
      ·kernel_rfl
      ·(intro W' hSw; have f0 := keepc hSw b0; have f1 := keepc hSw b1; have f2 := keepc hSw b2; have f3 := keepc hSw b3; go_simp; (try with_reducible rfl))
      (try simp only [List.getElem_toArray, List.getElem_cons_succ, List.getElem_cons_zero, Act.put, List.setIfInBounds_toArray, List.set_cons_succ, List.set_cons_zero])
      refine wpAnyH_ready (rs := [17]) (by kernel_rfl) (by simp) ?_
      refine AllReadyH.cons (o := _) rfl (fun K hK => ?_) AllReadyH.nil
      go_simp
      refine (rmost o _).mono ?_
      rintro r w2 ⟨rfl, rfl⟩
      refine hK.out _ _ hH1 (fun hH2 => ?_)
      clear hK K
      (try simp only [List.getElem_toArray, List.getElem_cons_succ, List.getElem_cons_zero, Act.put, List.setIfInBounds_toArray, List.set_cons_succ, List.set_cons_zero])
      refine wpAnyH_take (i := 18) (oi := _) (v := ?_) rfl (by kernel_rfl) (by kernel_rfl) (by kernel_rfl) (fun _ _ _ h => h) (Or.inl ⟨?_, ?_⟩) hH2 ?_
      rotate_left
      ·kernel_rfl
      ·(intro W' _; go_simp; (try simp only [D1, E1, D2, D3, D4, E4, D5, E5, D6, E6, Bool.not_true, Bool.not_false]); (try with_reducible rfl))
      (try simp only [List.getElem_toArray, List.getElem_cons_succ, List.getElem_cons_zero, Act.put, List.setIfInBounds_toArray, List.set_cons_succ, List.set_cons_zero])
      refine wpAnyH_take (i := 19) (oi := _) (v := ?_) rfl (by kernel_rfl) (by kernel_rfl) (by kernel_rfl) (fun _ _ _ h => h) (Or.inl ⟨?_, ?_⟩) hH2 ?_
      rotate_left
      ·kernel_rfl
      ·(intro W' _; go_simp; (try simp only [D1, E1, D2, D3, D4, E4, D5, E5, D6, E6, Bool.not_true, Bool.not_false]); (try with_reducible rfl))
      (try simp only [List.getElem_toArray, List.getElem_cons_succ, List.getElem_cons_zero, Act.put, List.setIfInBounds_toArray, List.set_cons_succ, List.set_cons_zero])
      refine wpAnyH_take (i := 20) (oi := _) (v := ?_) rfl (by kernel_rfl) (by kernel_rfl) (by kernel_rfl) (fun _ _ _ h => h) (Or.inl ⟨?_, ?_⟩) hH2 ?_
      rotate_left
      ·kernel_rfl
      ·(intro W' _; go_simp; (try with_reducible rfl))
      (try simp only [List.getElem_toArray, List.getElem_cons_succ, List.getElem_cons_zero, Act.put, List.setIfInBounds_toArray, List.set_cons_succ, List.set_cons_zero])
      refine wpAnyH_take (i := 21) (oi := _) (v := ?_) rfl (by kernel_rfl) (by kernel_rfl) (by kernel_rfl) (fun _ _ _ h => h) (Or.inl ⟨?_, ?_⟩) hH2 ?_
      rotate_left
      ·kernel_rfl
      ·(intro W' _; go_simp; (try with_reducible rfl))
      (try simp only [List.getElem_toArray, List.getElem_cons_succ, List.getElem_cons_zero, Act.put, List.setIfInBounds_toArray, List.set_cons_succ, List.set_cons_zero])
      refine wpAnyH_take (i := 22) (oi := _) (v := ?_) rfl (by kernel_rfl) (by kernel_rfl) (by kernel_rfl) (fun _ _ _ h => h) (Or.inl ⟨?_, ?_⟩) hH2 ?_
      rotate_left
      ·kernel_rfl
      ·(intro W' hSw; have f0 := keepc hSw b0; have f1 := keepc hSw b1; have f2 := keepc hSw b2; have f3 := keepc hSw b3; go_simp; (try with_reducible rfl))
      (try simp only [List.getElem_toArray, List.getElem_cons_succ, List.getElem_cons_zero, Act.put, List.setIfInBounds_toArray, List.set_cons_succ, List.set_cons_zero])
      refine wpAnyH_take (i := 23) (oi := _) (v := ?_) rfl (by kernel_rfl) (by kernel_rfl) (by kernel_rfl) (fun _ _ _ h => h) (Or.inl ⟨?_, ?_⟩) hH2 ?_
      rotate_left
      ·kernel_rfl
      ·(intro W' _; go_simp; (try simp only [D1, E1, D2, D3, D4, E4, D5, E5, D6, E6, Bool.not_true, Bool.not_false]); (try with_reducible rfl))
      (try simp only [List.getElem_toArray, List.getElem_cons_succ, List.getElem_cons_zero, Act.put, List.setIfInBounds_toArray, List.set_cons_succ, List.set_cons_zero])
      refine wpAnyH_take (i := 24) (oi := _) (v := ?_) rfl (by kernel_rfl) (by kernel_rfl) (by kernel_rfl) (fun _ _ _ h => h) (Or.inl ⟨?_, ?_⟩) hH2 ?_
      rotate_left
      ·kernel_rfl
      ·(intro W' _; go_simp; (try with_reducible rfl))
      (try simp only [List.getElem_toArray, List.getElem_cons_succ, List.getElem_cons_zero, Act.put, List.setIfInBounds_toArray, List.set_cons_succ, List.set_cons_zero])
      refine wpAnyH_take (i := 25) (oi := _) (v := ?_) rfl (by kernel_rfl) (by kernel_rfl) (by kernel_rfl) (fun _ _ _ h => h) (Or.inl ⟨?_, ?_⟩) hH2 ?_
      rotate_left
      ·kernel_rfl
      ·(intro W' _; go_simp; (try with_reducible rfl))
      (try simp only [List.getElem_toArray, List.getElem_cons_succ, List.getElem_cons_zero, Act.put, List.setIfInBounds_toArray, List.set_cons_succ, List.set_cons_zero])
      refine wpAnyH_take (i := 26) (oi := _) (v := ?_) rfl (by kernel_rfl) (by kernel_rfl) (by kernel_rfl) (fun _ _ _ h => h) (Or.inl ⟨?_, ?_⟩) hH2 ?_
      rotate_left
      ·kernel_rfl
      ·(intro W' hSw; have f0 := keepc hSw b0; have f1 := keepc hSw b1; have f2 := keepc hSw b2; have f3 := keepc hSw b3; go_simp; (try with_reducible rfl))
      (try simp only [List.getElem_toArray, List.getElem_cons_succ, List.getElem_cons_zero, Act.put, List.setIfInBounds_toArray, List.set_cons_succ, List.set_cons_zero])
      refine wpAnyH_take (i := 27) (oi := _) (v := ?_) rfl (by kernel_rfl) (by kernel_rfl) (by kernel_rfl) (fun _ _ _ h => h) (Or.inl ⟨?_, ?_⟩) hH2 ?_
      rotate_left
      ·kernel_rfl
      ·(intro W' _; go_simp; (try simp only [D1, E1, D2, D3, D4, E4, D5, E5, D6, E6, Bool.not_true, Bool.not_false]); (try with_reducible rfl))
      (try simp only [List.getElem_toArray, List.getElem_cons_succ, List.getElem_cons_zero, Act.put, List.setIfInBounds_toArray, List.set_cons_succ, List.set_cons_zero])
      refine wpAnyH_take (i := 28) (oi := _) (v := ?_) rfl (by kernel_rfl) (by kernel_rfl) (by kernel_rfl) (fun _ _ _ h => h) (Or.inl ⟨?_, ?_⟩) hH2 ?_
      rotate_left
      ·kernel_rfl
      ·(intro W' _; go_simp; (try simp only [D1, E1, D2, D3, D4, E4, D5, E5, D6, E6, Bool.not_true, Bool.not_false]); (try with_reducible rfl))
      (try simp only [List.getElem_toArray, List.getElem_cons_succ, List.getElem_cons_zero, Act.put, List.setIfInBounds_toArray, List.set_cons_succ, List.set_cons_zero])
      refine wpAnyH_take (i := 29) (oi := _) (v := ?_) rfl (by kernel_rfl) (by kernel_rfl) (by kernel_rfl) (fun _ _ _ h => h) (Or.inl ⟨?_, ?_⟩) hH2 ?_
      rotate_left
      ·kernel_rfl
      ·(intro W' _; go_simp; (try simp only [D1, E1, D2, D3, D4, E4, D5, E5, D6, E6, Bool.not_true, Bool.not_false]); (try with_reducible rfl))
      (try simp only [List.getElem_toArray, List.getElem_cons_succ, List.getElem_cons_zero, Act.put, List.setIfInBounds_toArray, List.set_cons_succ, List.set_cons_zero])
      refine wpAnyH_done (by kernel_rfl) ?_ _
      go_wp2_with fail
      go_ret
      exact ⟨by rw [HF.out]; rfl, btr hb2 hH2⟩
     | true =>
      have HR0 : Hid (R = l.all right) := Lib.hid (by rw [← hR, h5]; rfl)
      have D1 : ((n : Int) == opn o) = true := by first | (rw [beq_iff_eq]; exact h1) | (rw [beq_eq_false_iff_ne]; exact h1)
      have E1 : ((n : Int) != opn o) = false := by rw [bne, D1]; rfl
      have D2 : decide (v < 0) = false := by simp; omega
      have D3 : decide (most o < v) = false := by simp; omega
      have D4 : (o == 4) = false := by first | (rw [beq_iff_eq]; exact h4) | (rw [beq_eq_false_iff_ne]; exact h4)
      have E4 : (o != 4) = true := by rw [bne, D4]; rfl
      have D5 : X.toList.isEmpty = true := by rw [← HX.out, str_isEmpty]; exact h5
      have E5 : (X.toList == []) = true := by rw [← D5]; cases X.toList <;> rfl
      have D6 : (X.toList != []) = false := by rw [bne, E5]; rfl
      have E6 : decide (X.toList = []) = true := by rw [← E5]; cases X.toList <;> rfl
      clear hR h1 h2 h3 h4 h5
      go_enter Tryz.func69, Tryz.ntmps69
      go_wp2_with fail
      obtain ⟨W2, hW2⟩ : ∃ W2, (w.alloc (.cells #[.int .i64 o, .int .i64 v, .string X, .slice so n cap] 24)) = W2 := ⟨_, rfl⟩
      have hb2 : Below w.heap.size w W2 := by rw [← hW2]; exact bal (bref _) _
      have b0 : W2.cell? ⟨w.heap.size, 0, none⟩ = some (.int .i64 o) := by rw [← hW2]; simp [go_sem]
      have b1 : W2.cell? ⟨w.heap.size, 1, none⟩ = some (.int .i64 v) := by rw [← hW2]; simp [go_sem]
      have b2 : W2.cell? ⟨w.heap.size, 2, none⟩ = some (.string X) := by rw [← hW2]; simp [go_sem]
      have b3 : W2.cell? ⟨w.heap.size, 3, none⟩ = some (.slice so n cap) := by rw [← hW2]; simp [go_sem]
      rw [hW2]
      clear hW2
      refine wp_region_held_drew (S := (fun W => Below W2.heap.size W2 W)) (by kernel_rfl) (bdr (bref _)) (fun hH0 => ?_)
      refine wpAnyH_take (i := 0) (oi := _) (v := ?_) rfl (by kernel_rfl) (by kernel_rfl) (by kernel_rfl) (fun _ _ _ h => h) (Or.inl ⟨?_, ?_⟩) hH0 ?_
      rotate_left
      ·kernel_rfl
      ·(intro W' _; go_simp; (try with_reducible rfl))
      (try simp only [List.getElem_toArray, List.getElem_cons_zero, Act.put, List.setIfInBounds_toArray, List.set_cons_succ, List.set_cons_zero])
      refine wpAnyH_take (i := 1) (oi := _) (v := ?_) rfl (by kernel_rfl) (by kernel_rfl) (by kernel_rfl) (fun _ _ _ h => h) (Or.inl ⟨?_, ?_⟩) hH0 ?_
      rotate_left
      ·kernel_rfl
      ·(intro W' hSw; have f0 := keepc hSw b0; have f1 := keepc hSw b1; have f2 := keepc hSw b2; have f3 := keepc hSw b3; go_simp; (try with_reducible rfl))
      (try simp only [List.getElem_toArray, List.getElem_cons_succ, List.getElem_cons_zero, Act.put, List.setIfInBounds_toArray, List.set_cons_succ, List.set_cons_zero])
      refine wpAnyH_take (i := 2) (oi := _) (v := ?_) rfl (by kernel_rfl) (by kernel_rfl) (by kernel_rfl) (fun _ _ _ h => h) (Or.inl ⟨?_, ?_⟩) hH0 ?_
      rotate_left
      ·kernel_rfl
      ·(intro W' _; go_simp; (try simp only [D1, E1, D2, D3, D4, E4, D5, E5, D6, E6, Bool.not_true, Bool.not_false]); (try with_reducible rfl))
      (try simp only [List.getElem_toArray, List.getElem_cons_succ, List.getElem_cons_zero, Act.put, List.setIfInBounds_toArray, List.set_cons_succ, List.set_cons_zero])
      refine wpAnyH_take (i := 3) (oi := _) (v := ?_) rfl (by kernel_rfl) (by kernel_rfl) (by kernel_rfl) (fun _ _ _ h => h) (Or.inl ⟨?_, ?_⟩) hH0 ?_
      rotate_left
      ·kernel_rfl
      ·(intro W' _; go_simp; (try with_reducible rfl))
      (try simp only [List.getElem_toArray, List.getElem_cons_succ, List.getElem_cons_zero, Act.put, List.setIfInBounds_toArray, List.set_cons_succ, List.set_cons_zero])
      refine wpAnyH_take (i := 4) (oi := _) (v := ?_) rfl (by kernel_rfl) (by kernel_rfl) (by kernel_rfl) (fun _ _ _ h => h) (Or.inl ⟨?_, ?_⟩) hH0 ?_
      rotate_left
      ·kernel_rfl
      ·(intro W' hSw; have f0 := keepc hSw b0; have f1 := keepc hSw b1; have f2 := keepc hSw b2; have f3 := keepc hSw b3; go_simp; (try with_reducible rfl))
      (try simp only [List.getElem_toArray, List.getElem_cons_succ, List.getElem_cons_zero, Act.put, List.setIfInBounds_toArray, List.set_cons_succ, List.set_cons_zero])
      refine wpAnyH_ready (rs := [5]) (by kernel_rfl) (by simp) ?_
      refine AllReadyH.cons (o := _) rfl (fun K hK => ?_) AllReadyH.nil
      go_simp
      refine (roperands o _).mono ?_
      rintro r w1 ⟨rfl, rfl⟩
      refine hK.out _ _ hH0 (fun hH1 => ?_)
      clear hK K
      (try simp only [List.getElem_toArray, List.getElem_cons_succ, List.getElem_cons_zero, Act.put, List.setIfInBounds_toArray, List.set_cons_succ, List.set_cons_zero])
      refine wpAnyH_take (i := 6) (oi := _) (v := ?_) rfl (by kernel_rfl) (by kernel_rfl) (by kernel_rfl) (fun _ _ _ h => h) (Or.inl ⟨?_, ?_⟩) hH1 ?_
      rotate_left
      ·kernel_rfl
      ·(intro W' _; go_simp; (try simp only [D1, E1, D2, D3, D4, E4, D5, E5, D6, E6, Bool.not_true, Bool.not_false]); (try with_reducible rfl))
      (try simp only [List.getElem_toArray, List.getElem_cons_succ, List.getElem_cons_zero, Act.put, List.setIfInBounds_toArray, List.set_cons_succ, List.set_cons_zero])
      refine wpAnyH_take (i := 7) (oi := _) (v := ?_) rfl (by kernel_rfl) (by kernel_rfl) (by kernel_rfl) (fun _ _ _ h => h) (Or.inl ⟨?_, ?_⟩) hH1 ?_
      rotate_left
      ·kernel_rfl
      ·(intro W' _; go_simp; (try with_reducible rfl))
      (try simp only [List.getElem_toArray, List.getElem_cons_succ, List.getElem_cons_zero, Act.put, List.setIfInBounds_toArray, List.set_cons_succ, List.set_cons_zero])
      refine wpAnyH_take (i := 8) (oi := _) (v := ?_) rfl (by kernel_rfl) (by kernel_rfl) (by kernel_rfl) (fun _ _ _ h => h) (Or.inl ⟨?_, ?_⟩) hH1 ?_
      rotate_left
      ·kernel_rfl
      ·(intro W' _; go_simp; (try with_reducible rfl))
      (try simp only [List.getElem_toArray, List.getElem_cons_succ, List.getElem_cons_zero, Act.put, List.setIfInBounds_toArray, List.set_cons_succ, List.set_cons_zero])
      refine wpAnyH_take (i := 9) (oi := _) (v := ?_) rfl (by kernel_rfl) (by kernel_rfl) (by kernel_rfl) (fun _ _ _ h => h) (Or.inl ⟨?_, ?_⟩) hH1 ?_
      rotate_left
      ·kernel_rfl
      ·(intro W' hSw; have f0 := keepc hSw b0; have f1 := keepc hSw b1; have f2 := keepc hSw b2; have f3 := keepc hSw b3; go_simp; (try with_reducible rfl))
      (try simp only [List.getElem_toArray, List.getElem_cons_succ, List.getElem_cons_zero, Act.put, List.setIfInBounds_toArray, List.set_cons_succ, List.set_cons_zero])
      refine wpAnyH_take (i := 10) (oi := _) (v := ?_) rfl (by kernel_rfl) (by kernel_rfl) (by kernel_rfl) (fun _ _ _ h => h) (Or.inl ⟨?_, ?_⟩) hH1 ?_
      rotate_left
      ·kernel_rfl
      ·(intro W' _; go_simp; (try simp only [D1, E1, D2, D3, D4, E4, D5, E5, D6, E6, Bool.not_true, Bool.not_false]); (try with_reducible rfl))
      (try simp only [List.getElem_toArray, List.getElem_cons_succ, List.getElem_cons_zero, Act.put, List.setIfInBounds_toArray, List.set_cons_succ, List.set_cons_zero])
      refine wpAnyH_take (i := 11) (oi := _) (v := ?_) rfl (by kernel_rfl) (by kernel_rfl) (by kernel_rfl) (fun _ _ _ h => h) (Or.inl ⟨?_, ?_⟩) hH1 ?_
      rotate_left
      ·kernel_rfl
      ·(intro W' _; go_simp; (try simp only [D1, E1, D2, D3, D4, E4, D5, E5, D6, E6, Bool.not_true, Bool.not_false]); (try with_reducible rfl))
      (try simp only [List.getElem_toArray, List.getElem_cons_succ, List.getElem_cons_zero, Act.put, List.setIfInBounds_toArray, List.set_cons_succ, List.set_cons_zero])
      refine wpAnyH_take (i := 12) (oi := _) (v := ?_) rfl (by kernel_rfl) (by kernel_rfl) (by kernel_rfl) (fun _ _ _ h => h) (Or.inl ⟨?_, ?_⟩) hH1 ?_
      rotate_left
      ·kernel_rfl
      ·(intro W' _; go_simp; (try with_reducible rfl))
      (try simp only [List.getElem_toArray, List.getElem_cons_succ, List.getElem_cons_zero, Act.put, List.setIfInBounds_toArray, List.set_cons_succ, List.set_cons_zero])
      refine wpAnyH_take (i := 13) (oi := _) (v := ?_) rfl (by kernel_rfl) (by kernel_rfl) (by kernel_rfl) (fun _ _ _ h => h) (Or.inl ⟨?_, ?_⟩) hH1 ?_
      rotate_left
      ·kernel_rfl
      ·(intro W' _; go_simp; (try with_reducible rfl))
      (try simp only [List.getElem_toArray, List.getElem_cons_succ, List.getElem_cons_zero, Act.put, List.setIfInBounds_toArray, List.set_cons_succ, List.set_cons_zero])
      refine wpAnyH_take (i := 14) (oi := _) (v := ?_) rfl (by kernel_rfl) (by kernel_rfl) (by kernel_rfl) (fun _ _ _ h => h) (Or.inl ⟨?_, ?_⟩) hH1 ?_
      rotate_left
      ·kernel_rfl
      ·(intro W' hSw; have f0 := keepc hSw b0; have f1 := keepc hSw b1; have f2 := keepc hSw b2; have f3 := keepc hSw b3; go_simp; (try with_reducible rfl))
      (try simp only [List.getElem_toArray, List.getElem_cons_succ, List.getElem_cons_zero, Act.put, List.setIfInBounds_toArray, List.set_cons_succ, List.set_cons_zero])
      refine wpAnyH_take (i := 15) (oi := _) (v := ?_) rfl (by kernel_rfl) (by kernel_rfl) (by kernel_rfl) (fun _ _ _ h => h) (Or.inl ⟨?_, ?_⟩) hH1 ?_
      rotate_left
      ·kernel_rfl
      ·(intro W' _; go_simp; (try with_reducible rfl))
      (try simp only [List.getElem_toArray, List.getElem_cons_succ, List.getElem_cons_zero, Act.put, List.setIfInBounds_toArray, List.set_cons_succ, List.set_cons_zero])
      refine wpAnyH_take (i := 16) (oi := _) (v := ?_) rfl (by kernel_rfl) (by kernel_rfl) (by kernel_rfl) (fun _ _ _ h => h) (Or.inl ⟨?_, ?_⟩) hH1 ?_
      rotate_left
      ·kernel_rfl
      ·(intro W' hSw; have f0 := keepc hSw b0; have f1 := keepc hSw b1; have f2 := keepc hSw b2; have f3 := keepc hSw b3; go_simp; (try with_reducible rfl))
      (try simp only [List.getElem_toArray, List.getElem_cons_succ, List.getElem_cons_zero, Act.put, List.setIfInBounds_toArray, List.set_cons_succ, List.set_cons_zero])
      refine wpAnyH_ready (rs := [17]) (by kernel_rfl) (by simp) ?_
      refine AllReadyH.cons (o := _) rfl (fun K hK => ?_) AllReadyH.nil
      go_simp
      refine (rmost o _).mono ?_
      rintro r w2 ⟨rfl, rfl⟩
      refine hK.out _ _ hH1 (fun hH2 => ?_)
      clear hK K
      (try simp only [List.getElem_toArray, List.getElem_cons_succ, List.getElem_cons_zero, Act.put, List.setIfInBounds_toArray, List.set_cons_succ, List.set_cons_zero])
      refine wpAnyH_take (i := 18) (oi := _) (v := ?_) rfl (by kernel_rfl) (by kernel_rfl) (by kernel_rfl) (fun _ _ _ h => h) (Or.inl ⟨?_, ?_⟩) hH2 ?_
      rotate_left
      ·kernel_rfl
      ·(intro W' _; go_simp; (try simp only [D1, E1, D2, D3, D4, E4, D5, E5, D6, E6, Bool.not_true, Bool.not_false]); (try with_reducible rfl))
      (try simp only [List.getElem_toArray, List.getElem_cons_succ, List.getElem_cons_zero, Act.put, List.setIfInBounds_toArray, List.set_cons_succ, List.set_cons_zero])
      refine wpAnyH_take (i := 19) (oi := _) (v := ?_) rfl (by kernel_rfl) (by kernel_rfl) (by kernel_rfl) (fun _ _ _ h => h) (Or.inl ⟨?_, ?_⟩) hH2 ?_
      rotate_left
      ·kernel_rfl
      ·(intro W' _; go_simp; (try simp only [D1, E1, D2, D3, D4, E4, D5, E5, D6, E6, Bool.not_true, Bool.not_false]); (try with_reducible rfl))
      (try simp only [List.getElem_toArray, List.getElem_cons_succ, List.getElem_cons_zero, Act.put, List.setIfInBounds_toArray, List.set_cons_succ, List.set_cons_zero])
      refine wpAnyH_take (i := 20) (oi := _) (v := ?_) rfl (by kernel_rfl) (by kernel_rfl) (by kernel_rfl) (fun _ _ _ h => h) (Or.inl ⟨?_, ?_⟩) hH2 ?_
      rotate_left
      ·kernel_rfl
      ·(intro W' _; go_simp; (try with_reducible rfl))
      (try simp only [List.getElem_toArray, List.getElem_cons_succ, List.getElem_cons_zero, Act.put, List.setIfInBounds_toArray, List.set_cons_succ, List.set_cons_zero])
      refine wpAnyH_take (i := 21) (oi := _) (v := ?_) rfl (by kernel_rfl) (by kernel_rfl) (by kernel_rfl) (fun _ _ _ h => h) (Or.inl ⟨?_, ?_⟩) hH2 ?_
      rotate_left
      ·kernel_rfl
      ·(intro W' _; go_simp; (try with_reducible rfl))
      (try simp only [List.getElem_toArray, List.getElem_cons_succ, List.getElem_cons_zero, Act.put, List.setIfInBounds_toArray, List.set_cons_succ, List.set_cons_zero])
      refine wpAnyH_take (i := 22) (oi := _) (v := ?_) rfl (by kernel_rfl) (by kernel_rfl) (by kernel_rfl) (fun _ _ _ h => h) (Or.inl ⟨?_, ?_⟩) hH2 ?_
      rotate_left
      ·kernel_rfl
      ·(intro W' hSw; have f0 := keepc hSw b0; have f1 := keepc hSw b1; have f2 := keepc hSw b2; have f3 := keepc hSw b3; go_simp; (try with_reducible rfl))
      (try simp only [List.getElem_toArray, List.getElem_cons_succ, List.getElem_cons_zero, Act.put, List.setIfInBounds_toArray, List.set_cons_succ, List.set_cons_zero])
      refine wpAnyH_take (i := 23) (oi := _) (v := ?_) rfl (by kernel_rfl) (by kernel_rfl) (by kernel_rfl) (fun _ _ _ h => h) (Or.inl ⟨?_, ?_⟩) hH2 ?_
      rotate_left
      ·kernel_rfl
      ·(intro W' _; go_simp; (try simp only [D1, E1, D2, D3, D4, E4, D5, E5, D6, E6, Bool.not_true, Bool.not_false]); (try with_reducible rfl))
      (try simp only [List.getElem_toArray, List.getElem_cons_succ, List.getElem_cons_zero, Act.put, List.setIfInBounds_toArray, List.set_cons_succ, List.set_cons_zero])
      refine wpAnyH_take (i := 24) (oi := _) (v := ?_) rfl (by kernel_rfl) (by kernel_rfl) (by kernel_rfl) (fun _ _ _ h => h) (Or.inl ⟨?_, ?_⟩) hH2 ?_
      rotate_left
      ·kernel_rfl
      ·(intro W' _; go_simp; (try with_reducible rfl))
      (try simp only [List.getElem_toArray, List.getElem_cons_succ, List.getElem_cons_zero, Act.put, List.setIfInBounds_toArray, List.set_cons_succ, List.set_cons_zero])
      refine wpAnyH_take (i := 25) (oi := _) (v := ?_) rfl (by kernel_rfl) (by kernel_rfl) (by kernel_rfl) (fun _ _ _ h => h) (Or.inl ⟨?_, ?_⟩) hH2 ?_
      rotate_left
      ·kernel_rfl
      ·(intro W' _; go_simp; (try with_reducible rfl))
      (try simp only [List.getElem_toArray, List.getElem_cons_succ, List.getElem_cons_zero, Act.put, List.setIfInBounds_toArray, List.set_cons_succ, List.set_cons_zero])
      refine wpAnyH_take (i := 26) (oi := _) (v := ?_) rfl (by kernel_rfl) (by kernel_rfl) (by kernel_rfl) (fun _ _ _ h => h) (Or.inl ⟨?_, ?_⟩) hH2 ?_
      rotate_left
      ·kernel_rfl
      ·(intro W' hSw; have f0 := keepc hSw b0; have f1 := keepc hSw b1; have f2 := keepc hSw b2; have f3 := keepc hSw b3; go_simp; (try with_reducible rfl))
      (try simp only [List.getElem_toArray, List.getElem_cons_succ, List.getElem_cons_zero, Act.put, List.setIfInBounds_toArray, List.set_cons_succ, List.set_cons_zero])
      refine wpAnyH_take (i := 27) (oi := _) (v := ?_) rfl (by kernel_rfl) (by kernel_rfl) (by kernel_rfl) (fun _ _ _ h => h) (Or.inl ⟨?_, ?_⟩) hH2 ?_
      rotate_left
      ·kernel_rfl
      ·(intro W' _; go_simp; (try simp only [D1, E1, D2, D3, D4, E4, D5, E5, D6, E6, Bool.not_true, Bool.not_false]); (try with_reducible rfl))
      (try simp only [List.getElem_toArray, List.getElem_cons_succ, List.getElem_cons_zero, Act.put, List.setIfInBounds_toArray, List.set_cons_succ, List.set_cons_zero])
      refine wpAnyH_take (i := 28) (oi := _) (v := ?_) rfl (by kernel_rfl) (by kernel_rfl) (by kernel_rfl) (fun _ _ _ h => h) (Or.inl ⟨?_, ?_⟩) hH2 ?_
      rotate_left
      ·kernel_rfl
      ·(intro W' _; go_simp; (try simp only [D1, E1, D2, D3, D4, E4, D5, E5, D6, E6, Bool.not_true, Bool.not_false]); (try with_reducible rfl))
      (try simp only [List.getElem_toArray, List.getElem_cons_succ, List.getElem_cons_zero, Act.put, List.setIfInBounds_toArray, List.set_cons_succ, List.set_cons_zero])
      refine wpAnyH_take (i := 29) (oi := _) (v := ?_) rfl (by kernel_rfl) (by kernel_rfl) (by kernel_rfl) (fun _ _ _ h => h) (Or.inl ⟨?_, ?_⟩) hH2 ?_
      rotate_left
      ·kernel_rfl
      ·(intro W' _; go_simp; (try simp only [D1, E1, D2, D3, D4, E4, D5, E5, D6, E6, Bool.not_true, Bool.not_false]); (try with_reducible rfl))
      (try simp only [List.getElem_toArray, List.getElem_cons_succ, List.getElem_cons_zero, Act.put, List.setIfInBounds_toArray, List.set_cons_succ, List.set_cons_zero])
      refine wpAnyH_done (by kernel_rfl) ?_ _
      go_wp2_with fail
      have hbz := btr hb2 hH2
      have cz := keepc hH2 b3
      clear b0 b1 b2 b3
      go_loopw [3] (fun i wr => ∃ (k : Nat), k ≤ n ∧ i = .int .i64 k ∧ (l.take k).all right = true ∧ wr.cell? ⟨w.heap.size, 3, none⟩ = some (.slice so n cap) ∧ Below w.heap.size w wr) (fun i _ => n - (RowKit.intOf i).toNat)
      case atStart => exact ⟨0, by omega, rfl, rfl, cz, hbz⟩
      case round =>
       obtain ⟨k, hk, rfl, hq, hc, hB⟩ := hrel
       have HQ := Lib.hid hq
       have HB := Lib.hid hB
       clear hq hB cz hbz
       have hnb : n ≤ 100000 := by have h1 := sizs_len l; have h2 := HM.out; have h3 := HN.out; omega
       by_cases hlt : k < n
       ·have hkz : (k : Int) < (n : Int) := by omega
        obtain ⟨b, off, so2, cap2, rfl, hb, c0, c1, c2, c3, hs, _⟩ := (HT.out.keep HB.out).at k (by rw [HN.out]; exact hlt)
        have C0 := Lib.hid (fun W (hW : Below wr.heap.size wr W) => IH.out (l.getD k E0) (getD_mem'' _ _ _ (by rw [HN.out]; exact hlt)) so2 cap2 W (by have h1 := siz_mem (getD_mem'' E0 l k (by rw [HN.out]; exact hlt)); have h2 := HM.out; omega) (hs.keep hW))
        have HNX := Lib.hid (fun (hf : right (l.getD k E0) = false) => all_false_at l k (by rw [HN.out]; exact hlt) hf)
        have HNY := Lib.hid (fun (hf : right (l.getD k E0) = true) => all_next l k (by rw [HN.out]; exact hlt) HQ.out hf)
        obtain ⟨x, hx⟩ : ∃ x, l.getD k E0 = x := ⟨_, rfl⟩
        rw [hx] at c0 c1 c2 c3 C0 HNX HNY
        clear hs hx
        cases hrx : right x with
        | false =>
         rw [hrx] at C0
         have HF : Hid (R = false) := Lib.hid (by rw [HR0.out]; exact HNX.out hrx)
         clear hrx HNX HNY
         go_wp2_with (go_at_call 69; refine (C0.out _ (by first | exact bref _ | exact bdr (bref _))).mono ?_; rintro r w1 ⟨rfl, hb1⟩)
         go_ret
         exact ⟨by rw [HF.out]; rfl, btr HB.out hb1⟩
        | true =>
         rw [hrx] at C0
         have HA := Lib.hid (HNY.out hrx)
         clear hrx HNX HNY
         go_wp2_with (go_at_call 69; refine (C0.out _ (by first | exact bref _ | exact bdr (bref _))).mono ?_; rintro r w1 ⟨rfl, hb1⟩)
         go_roundw
         case rel => exact ⟨k + 1, by omega, by go_num, HA.out, keepc hb1 hc, btr HB.out hb1⟩
         case measure => simp [RowKit.intOf]; omega
       ·have he : k = n := by omega
        subst he
        have HF : Hid (R = true) := Lib.hid (by have q1 := HQ.out; have h3 := HN.out; rw [List.take_of_length_le (by omega)] at q1; rw [HR0.out]; exact q1)
        go_wp2_with fail
        go_ret
        exact ⟨by rw [HF.out]; rfl, HB.out⟩
theorem names_bad {e : Ex} {l : List Tx} (h : NmS e l) {s : Tx} (hs : s ∈ l) (hv : varOk s = false) : vnames e = false := by
 have hm := (h.2 s).1 hs
 simp only [nmL, List.mem_map, List.mem_filter, decide_eq_true_eq] at hm
 obtain ⟨x, ⟨hx, h4⟩, rfl⟩ := hm
 cases hh : vnames e with
 | false => rfl
 | true =>
  unfold vnames at hh
  rw [List.all_eq_true] at hh
  have := hh x hx
  unfold nameB at this
  rw [hv, decide_eq_true h4] at this
  cases this
theorem names_good {e : Ex} {l : List Tx} (h : NmS e l) (hv : l.all varOk = true) : vnames e = true := by
 unfold vnames
 rw [List.all_eq_true] at hv ⊢
 intro x hx
 unfold nameB
 by_cases h4 : x.op = 4
 ·have hm : x.s ∈ nmL (EM.pre e) := by
   simp only [nmL, List.mem_map, List.mem_filter, decide_eq_true_eq]
   exact ⟨x, ⟨hx, h4⟩, rfl⟩
  rw [hv _ ((h.2 _).2 hm)]
  simp
 ·rw [decide_eq_false h4]; rfl
theorem allv_next (l : List Tx) (k : Nat) (h : k < l.length) (ha : (l.take k).all varOk = true) (ht : varOk (l.getD k []) = true) : (l.take (k + 1)).all varOk = true := by
 rw [take_gT l k h, List.all_append, ha]
 simp only [List.all_cons, List.all_nil, Bool.and_true, Bool.true_and]
 exact ht
set_option maxRecDepth 100000 in
set_option maxHeartbeats 8000000 in
theorem rvalidate (e : Ex) (so : Option Addr) (cap : Nat) (w : World) (hm : siz e ≤ 100000) (h : ExprsAt so e.args w) :
  Calls Tryz.prog 43 #[.agg #[.int .i64 e.op, .int .i64 e.n, .string (str e.s), .slice so e.args.length cap]] w fun r w' => r = .returned (.int .i64 (vE e)) ∧ Below w.heap.size w w' := by
 have GR := Lib.hid (fun W (hW : Below w.heap.size w W) => rgreat e 64 so cap W (by decide) (h.keep hW))
 have DP := Lib.hid (fun W (hW : Below w.heap.size w W) => rdepth e so cap W hm (h.keep hW))
 have RG := Lib.hid (fun W (hW : Below w.heap.size w W) => rright e so cap W hm (h.keep hW))
 have NM := Lib.hid (fun W (hW : Below w.heap.size w W) => rnames e so cap W hm (h.keep hW))
 have HM := Lib.hid hm
 have hdm : dep e ≤ 100000 := Nat.le_trans (dep_le e) hm
 obtain ⟨R, hR⟩ : ∃ R, vE e = R := ⟨_, rfl⟩
 rw [hR]
 unfold vE at hR
 have HR := Lib.hid hR
 obtain ⟨d, hd⟩ : ∃ d, dep e = d := ⟨_, rfl⟩
 have HD := Lib.hid hd
 rw [hd] at DP hdm
 clear hm h hR hd
 have hb2 : Below w.heap.size w (w.alloc (.cells #[.int .i64 e.op, .int .i64 e.n, .string (str e.s), .slice so e.args.length cap] 24)) := bal (bref _) _
 cases hg : grtB e 64 with
 | true =>
  rw [hg] at GR
  have HF : Hid (R = 5) := Lib.hid (by rw [← HR.out, if_pos (fun x => by unfold grtB at hg; have := of_decide_eq_true hg; omega)])
  have D1 := trivial
  clear hg HR
  go_enter Tryz.func43, Tryz.ntmps43
  go_wp2_with fail
  obtain ⟨W2, hW2⟩ : ∃ W2, (w.alloc (.cells #[.int .i64 e.op, .int .i64 e.n, .string (str e.s), .slice so e.args.length cap] 24)) = W2 := ⟨_, rfl⟩
  have b0 : W2.cell? ⟨w.heap.size, 0, none⟩ = some (.int .i64 e.op) := by rw [← hW2]; simp [go_sem]
  have b1 : W2.cell? ⟨w.heap.size, 1, none⟩ = some (.int .i64 e.n) := by rw [← hW2]; simp [go_sem]
  have b2 : W2.cell? ⟨w.heap.size, 2, none⟩ = some (.string (str e.s)) := by rw [← hW2]; simp [go_sem]
  have b3 : W2.cell? ⟨w.heap.size, 3, none⟩ = some (.slice so e.args.length cap) := by rw [← hW2]; simp [go_sem]
  rw [hW2]
  rw [hW2] at hb2
  clear hW2
  go_wp2_with fail
  refine (GR.out _ hb2).mono ?_
  rintro r w1 ⟨rfl, hq1⟩
  have HQ1 := Lib.hid (btr hb2 hq1)
  replace b0 := keepc hq1 b0
  replace b1 := keepc hq1 b1
  replace b2 := keepc hq1 b2
  replace b3 := keepc hq1 b3
  clear hq1
  go_wp2_with fail
  go_ret
  exact ⟨by rw [HF.out]; rfl, HQ1.out⟩
 | false =>
  rw [hg] at GR
  have hsz : siz e ≤ 64 := by unfold grtB at hg; have := of_decide_eq_false hg; omega
  clear hg
  by_cases hd8 : 8 < d
  ·have HF : Hid (R = 5) := Lib.hid (by rw [← HR.out, if_pos (fun x => by have := HD.out; omega)])
   have D1 : decide ((8 : Int) < (d : Int)) = true := by simp; omega
   clear HR hsz hd8
   go_enter Tryz.func43, Tryz.ntmps43
   go_wp2_with fail
   obtain ⟨W2, hW2⟩ : ∃ W2, (w.alloc (.cells #[.int .i64 e.op, .int .i64 e.n, .string (str e.s), .slice so e.args.length cap] 24)) = W2 := ⟨_, rfl⟩
   have b0 : W2.cell? ⟨w.heap.size, 0, none⟩ = some (.int .i64 e.op) := by rw [← hW2]; simp [go_sem]
   have b1 : W2.cell? ⟨w.heap.size, 1, none⟩ = some (.int .i64 e.n) := by rw [← hW2]; simp [go_sem]
   have b2 : W2.cell? ⟨w.heap.size, 2, none⟩ = some (.string (str e.s)) := by rw [← hW2]; simp [go_sem]
   have b3 : W2.cell? ⟨w.heap.size, 3, none⟩ = some (.slice so e.args.length cap) := by rw [← hW2]; simp [go_sem]
   rw [hW2]
   rw [hW2] at hb2
   clear hW2
   go_wp2_with fail
   refine (GR.out _ hb2).mono ?_
   rintro r w1 ⟨rfl, hq1⟩
   have HQ1 := Lib.hid (btr hb2 hq1)
   replace b0 := keepc hq1 b0
   replace b1 := keepc hq1 b1
   replace b2 := keepc hq1 b2
   replace b3 := keepc hq1 b3
   clear hq1
   go_wp2_with fail
   refine (DP.out _ HQ1.out).mono ?_
   rintro r w2 ⟨rfl, hq2⟩
   have HQ2 := Lib.hid (btr HQ1.out hq2)
   replace b0 := keepc hq2 b0
   replace b1 := keepc hq2 b1
   replace b2 := keepc hq2 b2
   replace b3 := keepc hq2 b3
   clear hq2
   go_wp2_with fail
   go_ret
   exact ⟨by rw [HF.out]; rfl, HQ2.out⟩
  ·have HRx := Lib.hid HR.out
   have HR1 : Hid ((if right e = false then 1 else if vnames e = false then 4 else 0) = R) := Lib.hid (by have hq := HRx.out; rw [if_neg (fun x => x ⟨by have := HD.out; omega, hsz⟩)] at hq; exact hq)
   have D1 : decide ((8 : Int) < (d : Int)) = false := by simp; omega
   clear HR hsz hd8
   cases hr : right e with
   | false =>
    rw [hr] at RG
    have HF : Hid (R = 1) := Lib.hid (by rw [← HR1.out, if_pos hr])
    clear hr HR1
    go_enter Tryz.func43, Tryz.ntmps43
    go_wp2_with fail
    obtain ⟨W2, hW2⟩ : ∃ W2, (w.alloc (.cells #[.int .i64 e.op, .int .i64 e.n, .string (str e.s), .slice so e.args.length cap] 24)) = W2 := ⟨_, rfl⟩
    have b0 : W2.cell? ⟨w.heap.size, 0, none⟩ = some (.int .i64 e.op) := by rw [← hW2]; simp [go_sem]
    have b1 : W2.cell? ⟨w.heap.size, 1, none⟩ = some (.int .i64 e.n) := by rw [← hW2]; simp [go_sem]
    have b2 : W2.cell? ⟨w.heap.size, 2, none⟩ = some (.string (str e.s)) := by rw [← hW2]; simp [go_sem]
    have b3 : W2.cell? ⟨w.heap.size, 3, none⟩ = some (.slice so e.args.length cap) := by rw [← hW2]; simp [go_sem]
    rw [hW2]
    rw [hW2] at hb2
    clear hW2
    go_wp2_with fail
    refine (GR.out _ hb2).mono ?_
    rintro r w1 ⟨rfl, hq1⟩
    have HQ1 := Lib.hid (btr hb2 hq1)
    replace b0 := keepc hq1 b0
    replace b1 := keepc hq1 b1
    replace b2 := keepc hq1 b2
    replace b3 := keepc hq1 b3
    clear hq1
    go_wp2_with fail
    refine (DP.out _ HQ1.out).mono ?_
    rintro r w2 ⟨rfl, hq2⟩
    have HQ2 := Lib.hid (btr HQ1.out hq2)
    replace b0 := keepc hq2 b0
    replace b1 := keepc hq2 b1
    replace b2 := keepc hq2 b2
    replace b3 := keepc hq2 b3
    clear hq2
    have hbz := HQ2.out
    have f0 := b0
    have f1 := b1
    have f2 := b2
    have f3 := b3
    clear b0 b1 b2 b3
    go_wp2_with (go_at_call 69; refine (RG.out _ (by first | exact hbz | exact bdr hbz)).mono ?_; rintro r w9 ⟨rfl, hb9⟩)
    go_ret
    exact ⟨by rw [HF.out]; rfl, btr (by first | exact hbz | exact bdr hbz) hb9⟩
   | true =>
    rw [hr] at RG
    have HR2 : Hid ((if vnames e = false then 4 else 0) = R) := Lib.hid (by have hq := HR1.out; rw [if_neg (show ¬ right e = false by rw [hr]; decide)] at hq; exact hq)
    clear hr HR1
    go_enter Tryz.func43, Tryz.ntmps43
    go_wp2_with fail
    obtain ⟨W2, hW2⟩ : ∃ W2, (w.alloc (.cells #[.int .i64 e.op, .int .i64 e.n, .string (str e.s), .slice so e.args.length cap] 24)) = W2 := ⟨_, rfl⟩
    have b0 : W2.cell? ⟨w.heap.size, 0, none⟩ = some (.int .i64 e.op) := by rw [← hW2]; simp [go_sem]
    have b1 : W2.cell? ⟨w.heap.size, 1, none⟩ = some (.int .i64 e.n) := by rw [← hW2]; simp [go_sem]
    have b2 : W2.cell? ⟨w.heap.size, 2, none⟩ = some (.string (str e.s)) := by rw [← hW2]; simp [go_sem]
    have b3 : W2.cell? ⟨w.heap.size, 3, none⟩ = some (.slice so e.args.length cap) := by rw [← hW2]; simp [go_sem]
    rw [hW2]
    rw [hW2] at hb2
    clear hW2
    go_wp2_with fail
    refine (GR.out _ hb2).mono ?_
    rintro r w1 ⟨rfl, hq1⟩
    have HQ1 := Lib.hid (btr hb2 hq1)
    replace b0 := keepc hq1 b0
    replace b1 := keepc hq1 b1
    replace b2 := keepc hq1 b2
    replace b3 := keepc hq1 b3
    clear hq1
    go_wp2_with fail
    refine (DP.out _ HQ1.out).mono ?_
    rintro r w2 ⟨rfl, hq2⟩
    have HQ2 := Lib.hid (btr HQ1.out hq2)
    replace b0 := keepc hq2 b0
    replace b1 := keepc hq2 b1
    replace b2 := keepc hq2 b2
    replace b3 := keepc hq2 b3
    clear hq2
    have hbz := HQ2.out
    have f0 := b0
    have f1 := b1
    have f2 := b2
    have f3 := b3
    clear b0 b1 b2 b3
    go_wp2_with fail
    refine (RG.out _ (by first | exact hbz | exact bdr hbz)).mono ?_
    rintro r w3 ⟨rfl, hb3⟩
    have hbz3 := btr (by first | exact hbz | exact bdr hbz) hb3
    replace f0 := keepc hb3 f0
    replace f1 := keepc hb3 f1
    replace f2 := keepc hb3 f2
    replace f3 := keepc hb3 f3
    clear hb3
    go_wp2_with fail
    refine (NM.out _ (by first | exact hbz3 | exact bdr hbz3)).mono ?_
    rintro r w4 ⟨ls, ao, c, rfl, hN, hll, hT, hb4⟩
    have HNm := Lib.hid hN
    have HT := Lib.hid hT
    have HB4 := Lib.hid (btr (by first | exact hbz3 | exact bdr hbz3) hb4)
    obtain ⟨z, hz⟩ : ∃ z, ls.length = z := ⟨_, rfl⟩
    have HZ := Lib.hid hz
    rw [hz]
    have hzb : z ≤ 100000 := by have := HM.out; omega
    clear hN hT hb4 hz hll f0 f1 f2 f3
    go_wp2_with fail
    go_loopw [4] (fun i wr => ∃ (k : Nat), k ≤ z ∧ i = .int .i64 k ∧ (ls.take k).all varOk = true ∧ Below w.heap.size w wr ∧ Below w4.heap.size w4 wr) (fun i _ => z - (RowKit.intOf i).toNat)
    case atStart => exact ⟨0, by omega, rfl, rfl, HB4.out, bref _⟩
    case round =>
     obtain ⟨k, hk, rfl, hq, hB, hB4⟩ := hrel
     have HQ := Lib.hid hq
     have HB := Lib.hid hB
     have HB5 := Lib.hid hB4
     clear hq hB hB4
     by_cases hlt : k < z
     ·have hkz : (k : Int) < (z : Int) := by omega
      obtain ⟨bb, fo, rfl, _, d0⟩ := (HT.out.keep HB5.out).1 k (by rw [HZ.out]; exact hlt)
      have C0 := Lib.hid (fun W => rvariable (str (ls.getD k [])) W)
      have hbs : byt (str (ls.getD k [])) = ls.getD k [] := byt_str _
      rw [hbs] at C0
      have HNX := Lib.hid (fun (hf : varOk (ls.getD k []) = false) => names_bad HNm.out (getD_mem'' [] ls k (by rw [HZ.out]; exact hlt)) hf)
      have HNY := Lib.hid (fun (hf : varOk (ls.getD k []) = true) => allv_next ls k (by rw [HZ.out]; exact hlt) HQ.out hf)
      obtain ⟨x, hx⟩ : ∃ x, ls.getD k [] = x := ⟨_, rfl⟩
      rw [hx] at d0 C0 HNX HNY
      clear hx hbs
      cases hrx : varOk x with
      | false =>
       rw [hrx] at C0
       have HF : Hid (R = 4) := Lib.hid (by rw [← HR2.out, if_pos (HNX.out hrx)])
       clear hrx HNX HNY
       go_wp2_with (go_at_call 45; refine (C0.out _).mono ?_; rintro r w1 ⟨rfl, hb1⟩)
       go_ret
       exact ⟨by rw [HF.out]; rfl, by first | exact btr HB.out hb1 | exact btr (bdr HB.out) hb1⟩
      | true =>
       rw [hrx] at C0
       have HA := Lib.hid (HNY.out hrx)
       clear hrx HNX HNY
       go_wp2_with (go_at_call 45; refine (C0.out _).mono ?_; rintro r w1 ⟨rfl, hb1⟩)
       go_roundw
       case rel => exact ⟨k + 1, by omega, by go_num, HA.out, by first | exact btr HB.out hb1 | exact btr (bdr HB.out) hb1, by first | exact btr HB5.out hb1 | exact btr (bdr HB5.out) hb1⟩
       case measure => simp [RowKit.intOf]; omega
     ·have he : k = z := by omega
      subst he
      have HF : Hid (R = 0) := Lib.hid (by
       have q1 := HQ.out
       have h3 := HZ.out
       rw [List.take_of_length_le (by omega)] at q1
       rw [← HR2.out, if_neg (by rw [names_good HNm.out q1]; decide)])
      go_wp2_with fail
      go_ret
      exact ⟨by rw [HF.out]; rfl, HB.out⟩
end Go.Proofs.YthanoilbcdhbkaaGreatDoor
