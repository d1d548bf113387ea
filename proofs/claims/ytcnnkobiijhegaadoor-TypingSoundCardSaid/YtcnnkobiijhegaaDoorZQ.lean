/-
  The law's 'filled': variables replaced by values.
-/
import Derived.Test.YtcnnkobiijhegaaDoorZP
namespace Go.Proofs.YtcnnkobiijhegaaDoor
open Go Go.RowKit Go.Lib Go.Shelf WM TM EM YM

set_option maxRecDepth 100000 in
set_option maxHeartbeats 8000000 in
/-- A variable. -/
theorem mfillVar (vs : List Vr) (vo : Option Addr) (vc : Nat) (hvl : vs.length ≤ 100000) (nn : Int) (e : Ex) (he : e.op = 4) (so : Option Addr) (cap : Nat) (A : Nat → Bool) (w : World) (hA : ∀ k, A k = true → k < w.heap.size) (hv : VarsAt vo vs w) (hL : Lies (e, so, cap) (mask A w)) :
    Calls Tryd.prog 14 #[.agg #[.int .i64 e.op, .int .i64 e.n, .string (str e.s), .slice so e.args.length cap], .slice vo vs.length vc, .int .i64 nn] w fun r w' => ∃ so2 cap2, r = .returned (.agg #[.int .i64 (fill vs nn e).op, .int .i64 (fill vs nn e).n, .string (str (fill vs nn e).s), .slice so2 (fill vs nn e).args.length cap2]) ∧ Lies (fill vs nn e, so2, cap2) (mask (fun k => A k || decide (w.heap.size ≤ k)) w') ∧ Below w.heap.size w w' := by
  have HV := Lib.hid hv
  have HLe := Lib.hid hL
  have HA := Lib.hid hA
  have HY := Lib.hid (fill_var vs nn he)
  have PH := Lib.hid (fun k h1 h2 h3 => (fill_var vs nn he).trans (put_hit vs nn e.s e k h1 h2 h3))
  have PM := Lib.hid (fun h => (fill_var vs nn he).trans (put_miss vs nn e.s e h))
  obtain ⟨y, hy⟩ : ∃ y, fill vs nn e = y := ⟨_, rfl⟩
  rw [hy] at PH PM
  rw [hy]
  have BX := Lib.hid (Bx.new w (e, so, cap) 33)
  obtain ⟨en, hen⟩ : ∃ o, e.n = o := ⟨_, rfl⟩
  obtain ⟨X, hX⟩ : ∃ X, str e.s = X := ⟨_, rfl⟩
  obtain ⟨al, hal⟩ : ∃ o, e.args.length = o := ⟨_, rfl⟩
  obtain ⟨vn, hvn⟩ : ∃ n, vs.length = n := ⟨_, rfl⟩
  have HVN := Lib.hid hvn
  have HE := Lib.hid (And.intro he (And.intro hen (And.intro hX hal)))
  have HQ9 : Hid (∀ w' : World, Below w.heap.size w w' → Lies (e, so, cap) (mask (fun k => A k || decide (w.heap.size ≤ k)) w')) := Lib.hid (fun w' hb => hL.go fun p u hp hu => ⟨below_cell hb (hA _ hp) hu, by rw [hp]; rfl⟩)
  simp only [he, hen, hX, hal] at BX
  rw [hvn] at hvl
  rw [he, hen, hX, hal, hvn]
  have HB0 := Lib.hid (show Below w.heap.size w ((w.alloc (.cells #[.int .i64 4, .int .i64 en, .string X, .slice so al cap] 33)).alloc (.cells #[.int .i64 0, .int .i64 0, .string ⟨#[]⟩, .slice none 0 0] 33)) from by repeat (first | exact bref _ | refine bdr ?_ | refine bal ?_ _))
  have HZ0 := Lib.hid (show Zb (w.heap.size + 1) ((w.alloc (.cells #[.int .i64 4, .int .i64 en, .string X, .slice so al cap] 33)).alloc (.cells #[.int .i64 0, .int .i64 0, .string ⟨#[]⟩, .slice none 0 0] 33)) from ⟨by simp [go_sem], by simp [go_sem], by simp [go_sem], by simp [go_sem], fun j => by simp [go_sem]⟩)
  clear hv hL hA hvn HY hy
  have hs : byt X = e.s := by rw [← hX, byt_str]
  have HS := Lib.hid hs
  clear hs hen hX hal he
  go_enter Tryd.func14, Tryd.ntmps14
  go_wp2_with fail
  go_loopw [9] (fun i wr => ∃ (k : Nat), k ≤ vn ∧ i = .int .i64 k ∧ (∀ j, j < k → (vs.getD j V0).1 ≠ e.s) ∧ (wr.cell? ⟨w.heap.size, 0, none⟩ = some (.int .i64 4) ∧ wr.cell? ⟨w.heap.size, 1, none⟩ = some (.int .i64 en) ∧ wr.cell? ⟨w.heap.size, 2, none⟩ = some (.string X) ∧ wr.cell? ⟨w.heap.size, 3, none⟩ = some (.slice so al cap)) ∧ Zb (w.heap.size + 1) wr ∧ Below w.heap.size w wr) (fun i _ => vn - (RowKit.intOf i).toNat)
  case atStart => exact ⟨0, by omega, rfl, fun j hj => absurd hj (Nat.not_lt_zero _), ⟨by simp [go_sem], by simp [go_sem], by simp [go_sem], by simp [go_sem]⟩, HZ0.out, HB0.out⟩
  case round =>
    obtain ⟨k, hk, rfl, hq, ⟨x0, x1, x2, x3⟩, hz, hB⟩ := hrel
    have HQ := Lib.hid hq
    have HB := Lib.hid hB
    have HZ := Lib.hid hz
    obtain ⟨z0, z1, z2, z3, zf⟩ := hz
    clear hq hB
    by_cases hlt : k < vn
    · have hkz : (k : Int) < (vn : Int) := by omega
      have g1 : k < vs.length := by rw [HVN.out]; exact hlt
      obtain ⟨b, off, rfl, hb, c0, c1⟩ := (HV.out.keep HB.out) k g1
      have PK := Lib.hid (fun h => PH.out k g1 HQ.out h)
      obtain ⟨v, hv⟩ : ∃ v, vs.getD k V0 = v := ⟨_, rfl⟩
      have HVK := Lib.hid hv
      rw [hv] at c0 c1 PK
      obtain ⟨q, t⟩ := v
      simp only at c0 c1 PK
      clear hv g1
      by_cases hqs : q = e.s
      · have PK2 := Lib.hid (PK.out hqs)
        have hqX : str q = X := by rw [hqs, ← HS.out, str_byt]
        rw [hqX] at c0
        clear hqs hqX PK
        by_cases ht1 : t = 1
        · subst ht1
          have hye : y = .mk 1 nn [] [] := PK2.out
          have HYE := Lib.hid hye
          clear hye PK2
          go_wp2_with fail
          refine wp_region_held_drew (S := (fun W => Below wr.heap.size wr W)) (by kernel_rfl) (bdr (bref _)) (fun hH0 => ?_)
          refine wpAnyH_take (i := 0) (oi := _) (v := ?_) rfl (by kernel_rfl) (by kernel_rfl) (by kernel_rfl) (fun _ _ _ h => h) (Or.inl ⟨?_, ?_⟩) hH0 ?_
          rotate_left
          · kernel_rfl
          · (intro W' _; go_simp; (try with_reducible rfl))
          (try simp only [List.getElem_toArray, List.getElem_cons_zero, Act.put, List.setIfInBounds_toArray, List.set_cons_succ, List.set_cons_zero])
          refine wpAnyH_take (i := 1) (oi := _) (v := ?_) rfl (by kernel_rfl) (by kernel_rfl) (by kernel_rfl) (fun _ _ _ h => h) (Or.inl ⟨?_, ?_⟩) hH0 ?_
          rotate_left
          · kernel_rfl
          · (intro W' _; go_simp; (try with_reducible rfl))
          (try simp only [List.getElem_toArray, List.getElem_cons_succ, List.getElem_cons_zero, Act.put, List.setIfInBounds_toArray, List.set_cons_succ, List.set_cons_zero])
          refine wpAnyH_take (i := 2) (oi := _) (v := ?_) rfl (by kernel_rfl) (by kernel_rfl) (by kernel_rfl) (fun _ _ _ h => h) (Or.inl ⟨?_, ?_⟩) hH0 ?_
          rotate_left
          · kernel_rfl
          · (intro W' _; go_simp; (try with_reducible rfl))
          (try simp only [List.getElem_toArray, List.getElem_cons_succ, List.getElem_cons_zero, Act.put, List.setIfInBounds_toArray, List.set_cons_succ, List.set_cons_zero])
          refine wpAnyH_take (i := 3) (oi := _) (v := ?_) rfl (by kernel_rfl) (by kernel_rfl) (by kernel_rfl) (fun _ _ _ h => h) (Or.inl ⟨?_, ?_⟩) hH0 ?_
          rotate_left
          · kernel_rfl
          · (intro W' _; go_simp; (try with_reducible rfl))
          (try simp only [List.getElem_toArray, List.getElem_cons_succ, List.getElem_cons_zero, Act.put, List.setIfInBounds_toArray, List.set_cons_succ, List.set_cons_zero])
          refine wpAnyH_take (i := 4) (oi := _) (v := ?_) rfl (by kernel_rfl) (by kernel_rfl) (by kernel_rfl) (fun _ _ _ h => h) (Or.inl ⟨?_, ?_⟩) hH0 ?_
          rotate_left
          · kernel_rfl
          · (intro W' hSw; have f0 := keepc hSw c0; have f1 := keepc hSw x2; go_simp; (try with_reducible rfl))
          (try simp only [List.getElem_toArray, List.getElem_cons_succ, List.getElem_cons_zero, Act.put, List.setIfInBounds_toArray, List.set_cons_succ, List.set_cons_zero])
          refine wpAnyH_take (i := 5) (oi := _) (v := ?_) rfl (by kernel_rfl) (by kernel_rfl) (by kernel_rfl) (fun _ _ _ h => h) (Or.inl ⟨?_, ?_⟩) hH0 ?_
          rotate_left
          · kernel_rfl
          · (intro W' _; go_simp; (try with_reducible rfl))
          (try simp only [List.getElem_toArray, List.getElem_cons_succ, List.getElem_cons_zero, Act.put, List.setIfInBounds_toArray, List.set_cons_succ, List.set_cons_zero])
          refine wpAnyH_take (i := 6) (oi := _) (v := ?_) rfl (by kernel_rfl) (by kernel_rfl) (by kernel_rfl) (fun _ _ _ h => h) (Or.inl ⟨?_, ?_⟩) hH0 ?_
          rotate_left
          · kernel_rfl
          · (intro W' hSw; have f0 := keepc hSw c0; have f1 := keepc hSw x2; go_simp; (try with_reducible rfl))
          (try simp only [List.getElem_toArray, List.getElem_cons_succ, List.getElem_cons_zero, Act.put, List.setIfInBounds_toArray, List.set_cons_succ, List.set_cons_zero])
          refine wpAnyH_take (i := 7) (oi := _) (v := ?_) rfl (by kernel_rfl) (by kernel_rfl) (by kernel_rfl) (fun _ _ _ h => h) (Or.inl ⟨?_, ?_⟩) hH0 ?_
          rotate_left
          · kernel_rfl
          · (intro W' _; go_simp; (try with_reducible rfl))
          (try simp only [List.getElem_toArray, List.getElem_cons_succ, List.getElem_cons_zero, Act.put, List.setIfInBounds_toArray, List.set_cons_succ, List.set_cons_zero])
          refine wpAnyH_done (by kernel_rfl) ?_ _
          go_wp2_with fail
          refine bodyPost_ret (res_ex rfl _ _ _ rfl _ _ _ _ (st4 (HZ.out.of rfl) _ _ _ _)) rfl ?_
          have hbl := st4_below (bdr HB.out) (Nat.le_succ _) (.int .i64 1) (.int .i64 nn) (.string ⟨#[]⟩) (.slice none 0 0)
          exact ⟨none, 0, by rw [HYE.out]; rfl, by rw [HYE.out]; exact ⟨ExprsAt.nil _ _, fun _ => rfl⟩, hbl⟩
        have et1 : (t == 1) = false := by rw [beq_eq_false_iff_ne]; exact ht1
        by_cases ht2 : t = 2
        · subst ht2
          have hye : y = .mk 2 nn [] [] := PK2.out
          have HYE := Lib.hid hye
          clear hye PK2
          go_wp2_with fail
          refine wp_region_held_drew (S := (fun W => Below wr.heap.size wr W)) (by kernel_rfl) (bdr (bref _)) (fun hH0 => ?_)
          refine wpAnyH_take (i := 0) (oi := _) (v := ?_) rfl (by kernel_rfl) (by kernel_rfl) (by kernel_rfl) (fun _ _ _ h => h) (Or.inl ⟨?_, ?_⟩) hH0 ?_
          rotate_left
          · kernel_rfl
          · (intro W' _; go_simp; (try with_reducible rfl))
          (try simp only [List.getElem_toArray, List.getElem_cons_zero, Act.put, List.setIfInBounds_toArray, List.set_cons_succ, List.set_cons_zero])
          refine wpAnyH_take (i := 1) (oi := _) (v := ?_) rfl (by kernel_rfl) (by kernel_rfl) (by kernel_rfl) (fun _ _ _ h => h) (Or.inl ⟨?_, ?_⟩) hH0 ?_
          rotate_left
          · kernel_rfl
          · (intro W' _; go_simp; (try with_reducible rfl))
          (try simp only [List.getElem_toArray, List.getElem_cons_succ, List.getElem_cons_zero, Act.put, List.setIfInBounds_toArray, List.set_cons_succ, List.set_cons_zero])
          refine wpAnyH_take (i := 2) (oi := _) (v := ?_) rfl (by kernel_rfl) (by kernel_rfl) (by kernel_rfl) (fun _ _ _ h => h) (Or.inl ⟨?_, ?_⟩) hH0 ?_
          rotate_left
          · kernel_rfl
          · (intro W' _; go_simp; (try with_reducible rfl))
          (try simp only [List.getElem_toArray, List.getElem_cons_succ, List.getElem_cons_zero, Act.put, List.setIfInBounds_toArray, List.set_cons_succ, List.set_cons_zero])
          refine wpAnyH_take (i := 3) (oi := _) (v := ?_) rfl (by kernel_rfl) (by kernel_rfl) (by kernel_rfl) (fun _ _ _ h => h) (Or.inl ⟨?_, ?_⟩) hH0 ?_
          rotate_left
          · kernel_rfl
          · (intro W' _; go_simp; (try with_reducible rfl))
          (try simp only [List.getElem_toArray, List.getElem_cons_succ, List.getElem_cons_zero, Act.put, List.setIfInBounds_toArray, List.set_cons_succ, List.set_cons_zero])
          refine wpAnyH_take (i := 4) (oi := _) (v := ?_) rfl (by kernel_rfl) (by kernel_rfl) (by kernel_rfl) (fun _ _ _ h => h) (Or.inl ⟨?_, ?_⟩) hH0 ?_
          rotate_left
          · kernel_rfl
          · (intro W' hSw; have f0 := keepc hSw c0; have f1 := keepc hSw x2; go_simp; (try with_reducible rfl))
          (try simp only [List.getElem_toArray, List.getElem_cons_succ, List.getElem_cons_zero, Act.put, List.setIfInBounds_toArray, List.set_cons_succ, List.set_cons_zero])
          refine wpAnyH_take (i := 5) (oi := _) (v := ?_) rfl (by kernel_rfl) (by kernel_rfl) (by kernel_rfl) (fun _ _ _ h => h) (Or.inl ⟨?_, ?_⟩) hH0 ?_
          rotate_left
          · kernel_rfl
          · (intro W' _; go_simp; (try with_reducible rfl))
          (try simp only [List.getElem_toArray, List.getElem_cons_succ, List.getElem_cons_zero, Act.put, List.setIfInBounds_toArray, List.set_cons_succ, List.set_cons_zero])
          refine wpAnyH_take (i := 6) (oi := _) (v := ?_) rfl (by kernel_rfl) (by kernel_rfl) (by kernel_rfl) (fun _ _ _ h => h) (Or.inl ⟨?_, ?_⟩) hH0 ?_
          rotate_left
          · kernel_rfl
          · (intro W' hSw; have f0 := keepc hSw c0; have f1 := keepc hSw x2; go_simp; (try with_reducible rfl))
          (try simp only [List.getElem_toArray, List.getElem_cons_succ, List.getElem_cons_zero, Act.put, List.setIfInBounds_toArray, List.set_cons_succ, List.set_cons_zero])
          refine wpAnyH_take (i := 7) (oi := _) (v := ?_) rfl (by kernel_rfl) (by kernel_rfl) (by kernel_rfl) (fun _ _ _ h => h) (Or.inl ⟨?_, ?_⟩) hH0 ?_
          rotate_left
          · kernel_rfl
          · (intro W' _; go_simp; (try with_reducible rfl))
          (try simp only [List.getElem_toArray, List.getElem_cons_succ, List.getElem_cons_zero, Act.put, List.setIfInBounds_toArray, List.set_cons_succ, List.set_cons_zero])
          refine wpAnyH_done (by kernel_rfl) ?_ _
          go_wp2_with fail
          refine bodyPost_ret (res_ex rfl _ _ _ rfl _ _ _ _ (st4 (HZ.out.of rfl) _ _ _ _)) rfl ?_
          have hbl := st4_below (bdr HB.out) (Nat.le_succ _) (.int .i64 2) (.int .i64 nn) (.string ⟨#[]⟩) (.slice none 0 0)
          exact ⟨none, 0, by rw [HYE.out]; rfl, by rw [HYE.out]; exact ⟨ExprsAt.nil _ _, fun _ => rfl⟩, hbl⟩
        have et2 : (t == 2) = false := by rw [beq_eq_false_iff_ne]; exact ht2
        by_cases ht3 : t = 3
        · subst ht3
          have hye : y = .mk 3 nn [] [] := PK2.out
          have HYE := Lib.hid hye
          clear hye PK2
          go_wp2_with fail
          refine wp_region_held_drew (S := (fun W => Below wr.heap.size wr W)) (by kernel_rfl) (bdr (bref _)) (fun hH0 => ?_)
          refine wpAnyH_take (i := 0) (oi := _) (v := ?_) rfl (by kernel_rfl) (by kernel_rfl) (by kernel_rfl) (fun _ _ _ h => h) (Or.inl ⟨?_, ?_⟩) hH0 ?_
          rotate_left
          · kernel_rfl
          · (intro W' _; go_simp; (try with_reducible rfl))
          (try simp only [List.getElem_toArray, List.getElem_cons_zero, Act.put, List.setIfInBounds_toArray, List.set_cons_succ, List.set_cons_zero])
          refine wpAnyH_take (i := 1) (oi := _) (v := ?_) rfl (by kernel_rfl) (by kernel_rfl) (by kernel_rfl) (fun _ _ _ h => h) (Or.inl ⟨?_, ?_⟩) hH0 ?_
          rotate_left
          · kernel_rfl
          · (intro W' _; go_simp; (try with_reducible rfl))
          (try simp only [List.getElem_toArray, List.getElem_cons_succ, List.getElem_cons_zero, Act.put, List.setIfInBounds_toArray, List.set_cons_succ, List.set_cons_zero])
          refine wpAnyH_take (i := 2) (oi := _) (v := ?_) rfl (by kernel_rfl) (by kernel_rfl) (by kernel_rfl) (fun _ _ _ h => h) (Or.inl ⟨?_, ?_⟩) hH0 ?_
          rotate_left
          · kernel_rfl
          · (intro W' _; go_simp; (try with_reducible rfl))
          (try simp only [List.getElem_toArray, List.getElem_cons_succ, List.getElem_cons_zero, Act.put, List.setIfInBounds_toArray, List.set_cons_succ, List.set_cons_zero])
          refine wpAnyH_take (i := 3) (oi := _) (v := ?_) rfl (by kernel_rfl) (by kernel_rfl) (by kernel_rfl) (fun _ _ _ h => h) (Or.inl ⟨?_, ?_⟩) hH0 ?_
          rotate_left
          · kernel_rfl
          · (intro W' _; go_simp; (try with_reducible rfl))
          (try simp only [List.getElem_toArray, List.getElem_cons_succ, List.getElem_cons_zero, Act.put, List.setIfInBounds_toArray, List.set_cons_succ, List.set_cons_zero])
          refine wpAnyH_take (i := 4) (oi := _) (v := ?_) rfl (by kernel_rfl) (by kernel_rfl) (by kernel_rfl) (fun _ _ _ h => h) (Or.inl ⟨?_, ?_⟩) hH0 ?_
          rotate_left
          · kernel_rfl
          · (intro W' hSw; have f0 := keepc hSw c0; have f1 := keepc hSw x2; go_simp; (try with_reducible rfl))
          (try simp only [List.getElem_toArray, List.getElem_cons_succ, List.getElem_cons_zero, Act.put, List.setIfInBounds_toArray, List.set_cons_succ, List.set_cons_zero])
          refine wpAnyH_take (i := 5) (oi := _) (v := ?_) rfl (by kernel_rfl) (by kernel_rfl) (by kernel_rfl) (fun _ _ _ h => h) (Or.inl ⟨?_, ?_⟩) hH0 ?_
          rotate_left
          · kernel_rfl
          · (intro W' _; go_simp; (try with_reducible rfl))
          (try simp only [List.getElem_toArray, List.getElem_cons_succ, List.getElem_cons_zero, Act.put, List.setIfInBounds_toArray, List.set_cons_succ, List.set_cons_zero])
          refine wpAnyH_take (i := 6) (oi := _) (v := ?_) rfl (by kernel_rfl) (by kernel_rfl) (by kernel_rfl) (fun _ _ _ h => h) (Or.inl ⟨?_, ?_⟩) hH0 ?_
          rotate_left
          · kernel_rfl
          · (intro W' hSw; have f0 := keepc hSw c0; have f1 := keepc hSw x2; go_simp; (try with_reducible rfl))
          (try simp only [List.getElem_toArray, List.getElem_cons_succ, List.getElem_cons_zero, Act.put, List.setIfInBounds_toArray, List.set_cons_succ, List.set_cons_zero])
          refine wpAnyH_take (i := 7) (oi := _) (v := ?_) rfl (by kernel_rfl) (by kernel_rfl) (by kernel_rfl) (fun _ _ _ h => h) (Or.inl ⟨?_, ?_⟩) hH0 ?_
          rotate_left
          · kernel_rfl
          · (intro W' _; go_simp; (try with_reducible rfl))
          (try simp only [List.getElem_toArray, List.getElem_cons_succ, List.getElem_cons_zero, Act.put, List.setIfInBounds_toArray, List.set_cons_succ, List.set_cons_zero])
          refine wpAnyH_done (by kernel_rfl) ?_ _
          go_wp2_with fail
          refine bodyPost_ret (res_ex rfl _ _ _ rfl _ _ _ _ (st4 (HZ.out.of rfl) _ _ _ _)) rfl ?_
          have hbl := st4_below (bdr HB.out) (Nat.le_succ _) (.int .i64 3) (.int .i64 nn) (.string ⟨#[]⟩) (.slice none 0 0)
          exact ⟨none, 0, by rw [HYE.out]; rfl, by rw [HYE.out]; exact ⟨ExprsAt.nil _ _, fun _ => rfl⟩, hbl⟩
        have et3 : (t == 3) = false := by rw [beq_eq_false_iff_ne]; exact ht3
        have hye : y = e := by rw [PK2.out, if_neg ht1, if_neg ht2, if_neg ht3]
        have HYE := Lib.hid hye
        clear hye PK2
        go_wp2_with fail
        refine wp_region_held_drew (S := (fun W => Below wr.heap.size wr W)) (by kernel_rfl) (bdr (bref _)) (fun hH0 => ?_)
        refine wpAnyH_take (i := 0) (oi := _) (v := ?_) rfl (by kernel_rfl) (by kernel_rfl) (by kernel_rfl) (fun _ _ _ h => h) (Or.inl ⟨?_, ?_⟩) hH0 ?_
        rotate_left
        · kernel_rfl
        · (intro W' _; go_simp; (try with_reducible rfl))
        (try simp only [List.getElem_toArray, List.getElem_cons_zero, Act.put, List.setIfInBounds_toArray, List.set_cons_succ, List.set_cons_zero])
        refine wpAnyH_take (i := 1) (oi := _) (v := ?_) rfl (by kernel_rfl) (by kernel_rfl) (by kernel_rfl) (fun _ _ _ h => h) (Or.inl ⟨?_, ?_⟩) hH0 ?_
        rotate_left
        · kernel_rfl
        · (intro W' _; go_simp; (try with_reducible rfl))
        (try simp only [List.getElem_toArray, List.getElem_cons_succ, List.getElem_cons_zero, Act.put, List.setIfInBounds_toArray, List.set_cons_succ, List.set_cons_zero])
        refine wpAnyH_take (i := 2) (oi := _) (v := ?_) rfl (by kernel_rfl) (by kernel_rfl) (by kernel_rfl) (fun _ _ _ h => h) (Or.inl ⟨?_, ?_⟩) hH0 ?_
        rotate_left
        · kernel_rfl
        · (intro W' _; go_simp; (try with_reducible rfl))
        (try simp only [List.getElem_toArray, List.getElem_cons_succ, List.getElem_cons_zero, Act.put, List.setIfInBounds_toArray, List.set_cons_succ, List.set_cons_zero])
        refine wpAnyH_take (i := 3) (oi := _) (v := ?_) rfl (by kernel_rfl) (by kernel_rfl) (by kernel_rfl) (fun _ _ _ h => h) (Or.inl ⟨?_, ?_⟩) hH0 ?_
        rotate_left
        · kernel_rfl
        · (intro W' _; go_simp; (try with_reducible rfl))
        (try simp only [List.getElem_toArray, List.getElem_cons_succ, List.getElem_cons_zero, Act.put, List.setIfInBounds_toArray, List.set_cons_succ, List.set_cons_zero])
        refine wpAnyH_take (i := 4) (oi := _) (v := ?_) rfl (by kernel_rfl) (by kernel_rfl) (by kernel_rfl) (fun _ _ _ h => h) (Or.inl ⟨?_, ?_⟩) hH0 ?_
        rotate_left
        · kernel_rfl
        · (intro W' hSw; have f0 := keepc hSw c0; have f1 := keepc hSw x2; go_simp; (try with_reducible rfl))
        (try simp only [List.getElem_toArray, List.getElem_cons_succ, List.getElem_cons_zero, Act.put, List.setIfInBounds_toArray, List.set_cons_succ, List.set_cons_zero])
        refine wpAnyH_take (i := 5) (oi := _) (v := ?_) rfl (by kernel_rfl) (by kernel_rfl) (by kernel_rfl) (fun _ _ _ h => h) (Or.inl ⟨?_, ?_⟩) hH0 ?_
        rotate_left
        · kernel_rfl
        · (intro W' _; go_simp; (try with_reducible rfl))
        (try simp only [List.getElem_toArray, List.getElem_cons_succ, List.getElem_cons_zero, Act.put, List.setIfInBounds_toArray, List.set_cons_succ, List.set_cons_zero])
        refine wpAnyH_take (i := 6) (oi := _) (v := ?_) rfl (by kernel_rfl) (by kernel_rfl) (by kernel_rfl) (fun _ _ _ h => h) (Or.inl ⟨?_, ?_⟩) hH0 ?_
        rotate_left
        · kernel_rfl
        · (intro W' hSw; have f0 := keepc hSw c0; have f1 := keepc hSw x2; go_simp; (try with_reducible rfl))
        (try simp only [List.getElem_toArray, List.getElem_cons_succ, List.getElem_cons_zero, Act.put, List.setIfInBounds_toArray, List.set_cons_succ, List.set_cons_zero])
        refine wpAnyH_take (i := 7) (oi := _) (v := ?_) rfl (by kernel_rfl) (by kernel_rfl) (by kernel_rfl) (fun _ _ _ h => h) (Or.inl ⟨?_, ?_⟩) hH0 ?_
        rotate_left
        · kernel_rfl
        · (intro W' _; go_simp; (try with_reducible rfl))
        (try simp only [List.getElem_toArray, List.getElem_cons_succ, List.getElem_cons_zero, Act.put, List.setIfInBounds_toArray, List.set_cons_succ, List.set_cons_zero])
        refine wpAnyH_done (by kernel_rfl) ?_ _
        go_wp2_with fail
        refine bodyPost_ret (res_ex rfl _ _ _ rfl _ _ _ _ (st4 (HZ.out.of rfl) _ _ _ _)) rfl ?_
        have hbl := st4_below (bdr HB.out) (Nat.le_succ _) (.int .i64 4) (.int .i64 en) (.string X) (.slice so al cap)
        exact ⟨so, cap, by rw [HYE.out, HE.out.1, HE.out.2.1, HE.out.2.2.1, HE.out.2.2.2], by rw [HYE.out]; exact HQ9.out _ hbl, hbl⟩
      · have hs1 : (str q).toList ≠ X.toList := by
          intro h
          have := str_ne hqs
          rw [← HS.out, str_byt, h] at this
          simp at this
        have hs2 : ((str q).toList == X.toList) = false := by rw [beq_eq_false_iff_ne]; exact hs1
        have hs3 : ((str q).toList != X.toList) = true := by rw [bne_iff_ne]; exact hs1
        have HNX : Hid (∀ j, j < k + 1 → (vs.getD j V0).1 ≠ e.s) := Lib.hid (by
          intro j hj
          by_cases e9 : j = k
          · subst e9; rw [HVK.out]; exact hqs
          · exact HQ.out j (by omega))
        obtain ⟨Y, hY⟩ : ∃ Y, str q = Y := ⟨_, rfl⟩
        rw [hY] at c0 hs1 hs2 hs3
        clear hqs hY PK
        go_wp2_with fail
        refine wp_region_held_drew (S := (fun W => Below wr.heap.size wr W)) (by kernel_rfl) (bdr (bref _)) (fun hH0 => ?_)
        refine wpAnyH_take (i := 0) (oi := _) (v := ?_) rfl (by kernel_rfl) (by kernel_rfl) (by kernel_rfl) (fun _ _ _ h => h) (Or.inl ⟨?_, ?_⟩) hH0 ?_
        rotate_left
        · kernel_rfl
        · (intro W' _; go_simp; (try with_reducible rfl))
        (try simp only [List.getElem_toArray, List.getElem_cons_zero, Act.put, List.setIfInBounds_toArray, List.set_cons_succ, List.set_cons_zero])
        refine wpAnyH_take (i := 1) (oi := _) (v := ?_) rfl (by kernel_rfl) (by kernel_rfl) (by kernel_rfl) (fun _ _ _ h => h) (Or.inl ⟨?_, ?_⟩) hH0 ?_
        rotate_left
        · kernel_rfl
        · (intro W' _; go_simp; (try with_reducible rfl))
        (try simp only [List.getElem_toArray, List.getElem_cons_succ, List.getElem_cons_zero, Act.put, List.setIfInBounds_toArray, List.set_cons_succ, List.set_cons_zero])
        refine wpAnyH_take (i := 2) (oi := _) (v := ?_) rfl (by kernel_rfl) (by kernel_rfl) (by kernel_rfl) (fun _ _ _ h => h) (Or.inl ⟨?_, ?_⟩) hH0 ?_
        rotate_left
        · kernel_rfl
        · (intro W' _; go_simp; (try with_reducible rfl))
        (try simp only [List.getElem_toArray, List.getElem_cons_succ, List.getElem_cons_zero, Act.put, List.setIfInBounds_toArray, List.set_cons_succ, List.set_cons_zero])
        refine wpAnyH_take (i := 3) (oi := _) (v := ?_) rfl (by kernel_rfl) (by kernel_rfl) (by kernel_rfl) (fun _ _ _ h => h) (Or.inl ⟨?_, ?_⟩) hH0 ?_
        rotate_left
        · kernel_rfl
        · (intro W' _; go_simp; (try with_reducible rfl))
        (try simp only [List.getElem_toArray, List.getElem_cons_succ, List.getElem_cons_zero, Act.put, List.setIfInBounds_toArray, List.set_cons_succ, List.set_cons_zero])
        refine wpAnyH_take (i := 4) (oi := _) (v := ?_) rfl (by kernel_rfl) (by kernel_rfl) (by kernel_rfl) (fun _ _ _ h => h) (Or.inl ⟨?_, ?_⟩) hH0 ?_
        rotate_left
        · kernel_rfl
        · (intro W' hSw; have f0 := keepc hSw c0; have f1 := keepc hSw x2; go_simp; (try with_reducible rfl))
        (try simp only [List.getElem_toArray, List.getElem_cons_succ, List.getElem_cons_zero, Act.put, List.setIfInBounds_toArray, List.set_cons_succ, List.set_cons_zero])
        refine wpAnyH_take (i := 5) (oi := _) (v := ?_) rfl (by kernel_rfl) (by kernel_rfl) (by kernel_rfl) (fun _ _ _ h => h) (Or.inl ⟨?_, ?_⟩) hH0 ?_
        rotate_left
        · kernel_rfl
        · (intro W' _; go_simp; (try with_reducible rfl))
        (try simp only [List.getElem_toArray, List.getElem_cons_succ, List.getElem_cons_zero, Act.put, List.setIfInBounds_toArray, List.set_cons_succ, List.set_cons_zero])
        refine wpAnyH_take (i := 6) (oi := _) (v := ?_) rfl (by kernel_rfl) (by kernel_rfl) (by kernel_rfl) (fun _ _ _ h => h) (Or.inl ⟨?_, ?_⟩) hH0 ?_
        rotate_left
        · kernel_rfl
        · (intro W' hSw; have f0 := keepc hSw c0; have f1 := keepc hSw x2; go_simp; (try with_reducible rfl))
        (try simp only [List.getElem_toArray, List.getElem_cons_succ, List.getElem_cons_zero, Act.put, List.setIfInBounds_toArray, List.set_cons_succ, List.set_cons_zero])
        refine wpAnyH_take (i := 7) (oi := _) (v := ?_) rfl (by kernel_rfl) (by kernel_rfl) (by kernel_rfl) (fun _ _ _ h => h) (Or.inl ⟨?_, ?_⟩) hH0 ?_
        rotate_left
        · kernel_rfl
        · (intro W' _; go_simp; (try with_reducible rfl))
        (try simp only [List.getElem_toArray, List.getElem_cons_succ, List.getElem_cons_zero, Act.put, List.setIfInBounds_toArray, List.set_cons_succ, List.set_cons_zero])
        refine wpAnyH_done (by kernel_rfl) ?_ _
        go_wp2_with fail
        go_roundw
        case rel => exact ⟨k + 1, by omega, by go_num, HNX.out, ⟨x0, x1, x2, x3⟩, HZ.out.of rfl, bdr HB.out⟩
        case measure => simp [RowKit.intOf] <;> omega
    · have he9 : k = vn := by omega
      subst he9
      have hye := PM.out (by rw [HVN.out]; exact HQ.out)
      have HYE := Lib.hid hye
      clear hye
      go_wp2_with fail
      refine bodyPost_ret (res_ex rfl _ _ _ rfl _ _ _ _ (st4 HZ.out _ _ _ _)) rfl ?_
      have hbl := st4_below HB.out (Nat.le_succ _) (.int .i64 4) (.int .i64 en) (.string X) (.slice so al cap)
      exact ⟨so, cap, by rw [HYE.out, HE.out.1, HE.out.2.1, HE.out.2.2.1, HE.out.2.2.2], by rw [HYE.out]; exact HQ9.out _ hbl, hbl⟩
end Go.Proofs.YtcnnkobiijhegaaDoor
