/-
  The walk of TypingOf.
-/
import Derived.Test.YtcnnkobiijhegaaGreatDoorZI
import Derived.Test.YtcnnkobiijhegaaGreatDoorZJ
namespace Go.Proofs.YtcnnkobiijhegaaGreatDoor
open Go Go.RowKit Go.Lib Go.Shelf WM TM EM YM

set_option maxRecDepth 100000 in
set_option maxHeartbeats 8000000 in
theorem typingOf (e : Ex) (so : Option Addr) (cap : Nat) (vs : List Vr) (vo : Option Addr) (vc : Nat) (want : Int) (w : World) (hG : Ge w) (hL : Lies (e, so, cap) w) (hv : VarsAt vo vs w) :
    Calls Tryz.prog 3 #[.agg #[.int .i64 e.op, .int .i64 e.n, .string (str e.s), .slice so e.args.length cap], .slice vo vs.length vc, .int .i64 want] w fun r w' => r = .returned (.bool true) ∧ Below w.heap.size w w' := by
  have HL := Lib.hid hL
  have HV := Lib.hid hv
  have HG := Lib.hid hG
  have CG := Lib.hid (fun W (hW : Below w.heap.size w W) => rgreat e 200 so cap W (by decide) (hL.1.keep hW))
  have CS := Lib.hid (fun W (hW : Below w.heap.size w W) => lshort vs vo vc W (hv.keep hW))
  have CL := Lib.hid (fun W (hW : Below w.heap.size w W) => mlive W (hG.keep hW))
  have BX := Lib.hid (Bx.new w (e, so, cap) 24)
  have HB0 := Lib.hid (show Below w.heap.size w (w.alloc (.cells #[.int .i64 e.op, .int .i64 e.n, .string (str e.s), .slice so e.args.length cap] 24)) from bal (bref w) _)
  have HGR : Hid (grtB e 200 = false → siz e ≤ 200) := Lib.hid (fun h => by unfold grtB at h; have := of_decide_eq_false h; omega)
  have HSH := Lib.hid (short_len (l := vs))
  cases hgr : grtB e 200 with
  | true =>
    rw [hgr] at CG
    clear hgr hL hv hG HL HV HGR HSH CS
    go_enter Tryz.func3, Tryz.ntmps3
    go_wp2_with fail
    refine (CG.out _ HB0.out).mono ?_
    rintro r w1 ⟨rfl, hb1⟩
    have HB1 := Lib.hid (btr HB0.out hb1)
    clear hb1
    go_wp2_with fail
    refine (CL.out _ HB1.out).mono ?_
    rintro r w2 ⟨rfl, hb2⟩
    go_wp2_with fail
    go_ret
    exact ⟨rfl, btr HB1.out hb2⟩
  | false =>
  rw [hgr] at CG
  have hm := HGR.out hgr
  clear hgr HGR
  cases hsh : shortB vs with
  | false =>
    rw [hsh] at CS
    obtain ⟨vn, hvn⟩ : ∃ n, vs.length = n := ⟨_, rfl⟩
    rw [hvn] at CS ⊢
    clear hsh hL hv hG HL HV HSH hm hvn
    go_enter Tryz.func3, Tryz.ntmps3
    go_wp2_with fail
    refine (CG.out _ HB0.out).mono ?_
    rintro r w1 ⟨rfl, hb1⟩
    have HB1 := Lib.hid (btr HB0.out hb1)
    clear hb1
    go_wp2_with fail
    refine (CS.out _ HB1.out).mono ?_
    rintro r w2 ⟨rfl, hb2⟩
    have HB2 := Lib.hid (btr HB1.out hb2)
    clear hb2
    go_wp2_with fail
    refine (CL.out _ HB2.out).mono ?_
    rintro r w3 ⟨rfl, hb3⟩
    go_wp2_with fail
    go_ret
    exact ⟨rfl, btr HB2.out hb3⟩
  | true =>
  rw [hsh] at CS
  have hvl : vs.length ≤ 100000 := by have := HSH.out hsh; omega
  clear hsh HSH
  have C1 := Lib.hid (fun W (hW : Below w.heap.size w W) => mOf vs vo vc hvl e so cap W (by omega) (hG.keep hW) (hv.keep hW) (hL.keep hW))
  have C2 := Lib.hid (fun W (hW : Below w.heap.size w W) => rOf vs vo vc hvl e so cap W (by omega) (hv.keep hW) (hL.keep hW))
  have C3 := Lib.hid (fun W (hW : Below w.heap.size w W) => mCheck vs vo vc hvl e so cap want W (by omega) (hG.keep hW) (hv.keep hW) (hL.keep hW))
  have C4 := Lib.hid (fun W (hW : Below w.heap.size w W) => rCheck vs vo vc hvl e so cap want W (by omega) (hv.keep hW) (hL.keep hW))
  have BX0 := Lib.hid BX.out
  obtain ⟨o, ho⟩ : ∃ o, e.op = o := ⟨_, rfl⟩
  obtain ⟨en, hen⟩ : ∃ o, e.n = o := ⟨_, rfl⟩
  obtain ⟨X, hX⟩ : ∃ X, str e.s = X := ⟨_, rfl⟩
  obtain ⟨al, hal⟩ : ∃ o, e.args.length = o := ⟨_, rfl⟩
  obtain ⟨vn, hvn⟩ : ∃ n, vs.length = n := ⟨_, rfl⟩
  obtain ⟨q, hq⟩ : ∃ q, ofT e vs = q := ⟨_, rfl⟩
  obtain ⟨q1, q2⟩ := q
  obtain ⟨c, hc⟩ : ∃ q, chkE e vs want = q := ⟨_, rfl⟩
  rw [ho, hen, hX, hal] at CG
  rw [hvn] at CS
  rw [ho, hen, hX, hal, hvn, hq] at C1 C2
  rw [ho, hen, hX, hal, hvn, hc] at C3 C4
  rw [ho, hen, hX, hal] at HB0
  rw [ho, hen, hX, hal, hvn]
  simp only at C1 C2
  simp only [ho, hen, hX, hal] at BX0
  clear hL hv hG HL HV hm hvl hq hc BX
  have e1 : (q1 == q1) = true := by simp
  have e2 : (q2 == q2) = true := by simp
  have e3 : (c == c) = true := by simp
  go_enter Tryz.func3, Tryz.ntmps3
  go_wp2_with fail
  refine (CG.out _ HB0.out).mono ?_
  rintro r w1 ⟨rfl, hb⟩
  have HB1 := Lib.hid (btr HB0.out hb)
  have BX1 := Lib.hid (BX0.out.keep hb)
  clear hb
  obtain ⟨l0, x0, x1, x2, x3⟩ := BX1.out
  simp only [ho, hen, hX, hal] at x0 x1 x2 x3
  go_wp2_with fail
  refine (CS.out _ HB1.out).mono ?_
  rintro r w2 ⟨rfl, hb⟩
  have HB2 := Lib.hid (btr HB1.out hb)
  have BX2 := Lib.hid (BX1.out.keep hb)
  clear hb
  clear l0 x0 x1 x2 x3
  obtain ⟨l0, x0, x1, x2, x3⟩ := BX2.out
  simp only [ho, hen, hX, hal] at x0 x1 x2 x3
  go_wp2_with fail
  refine (C1.out _ HB2.out).mono ?_
  rintro r w3 ⟨rfl, hb⟩
  have HB3 := Lib.hid (btr HB2.out hb)
  have BX3 := Lib.hid (BX2.out.keep hb)
  clear hb
  clear l0 x0 x1 x2 x3
  obtain ⟨l0, x0, x1, x2, x3⟩ := BX3.out
  simp only [ho, hen, hX, hal] at x0 x1 x2 x3
  go_wp2_with fail
  refine (C2.out _ HB3.out).mono ?_
  rintro r w4 ⟨rfl, hb⟩
  have HB4 := Lib.hid (btr HB3.out hb)
  have BX4 := Lib.hid (BX3.out.keep hb)
  clear hb
  clear l0 x0 x1 x2 x3
  obtain ⟨l0, x0, x1, x2, x3⟩ := BX4.out
  simp only [ho, hen, hX, hal] at x0 x1 x2 x3
  go_wp2_with fail
  refine wp_region_held_drew (S := (fun W => Below w4.heap.size w4 W)) (by kernel_rfl) (bdr (bref _)) (fun hH0 => ?_)
  refine wpAnyH_take (i := 0) (oi := _) (v := ?_) rfl (by kernel_rfl) (by kernel_rfl) (by kernel_rfl) (fun _ _ _ h => h) (Or.inl ⟨?_, ?_⟩) hH0 ?_
  rotate_left
  · kernel_rfl
  · (intro W' _; go_simp; (try with_reducible rfl))
  (try simp only [List.getElem_toArray, List.getElem_cons_zero, Act.put, List.setIfInBounds_toArray, List.set_cons_succ, List.set_cons_zero])
  refine wpAnyH_take (i := 1) (oi := _) (v := ?_) rfl (by kernel_rfl) (by kernel_rfl) (by kernel_rfl) (fun _ _ _ h => h) (Or.inl ⟨?_, ?_⟩) hH0 ?_
  rotate_left
  · kernel_rfl
  · (intro W' _; go_simp; (try with_reducible rfl))
  (try simp only [List.getElem_toArray, List.getElem_cons_succ, List.getElem_cons_zero, Act.put, List.setIfInBounds_toArray, List.set_cons_succ, List.set_cons_zero])
  refine wpAnyH_take (i := 2) (oi := _) (v := ?_) rfl (by kernel_rfl) (by kernel_rfl) (by kernel_rfl) (fun _ _ _ h => h) (Or.inl ⟨?_, ?_⟩) hH0 ?_
  rotate_left
  · kernel_rfl
  · (intro W' _; go_simp; (try with_reducible rfl))
  (try simp only [List.getElem_toArray, List.getElem_cons_succ, List.getElem_cons_zero, Act.put, List.setIfInBounds_toArray, List.set_cons_succ, List.set_cons_zero])
  refine wpAnyH_take (i := 3) (oi := _) (v := ?_) rfl (by kernel_rfl) (by kernel_rfl) (by kernel_rfl) (fun _ _ _ h => h) (Or.inl ⟨?_, ?_⟩) hH0 ?_
  rotate_left
  · kernel_rfl
  · (intro W' _; go_simp; (try with_reducible rfl))
  (try simp only [List.getElem_toArray, List.getElem_cons_succ, List.getElem_cons_zero, Act.put, List.setIfInBounds_toArray, List.set_cons_succ, List.set_cons_zero])
  refine wpAnyH_take (i := 4) (oi := _) (v := ?_) rfl (by kernel_rfl) (by kernel_rfl) (by kernel_rfl) (fun _ _ _ h => h) (Or.inl ⟨?_, ?_⟩) hH0 ?_
  rotate_left
  · kernel_rfl
  · (intro W' _; go_simp; (try with_reducible rfl))
  (try simp only [List.getElem_toArray, List.getElem_cons_succ, List.getElem_cons_zero, Act.put, List.setIfInBounds_toArray, List.set_cons_succ, List.set_cons_zero])
  refine wpAnyH_take (i := 5) (oi := _) (v := ?_) rfl (by kernel_rfl) (by kernel_rfl) (by kernel_rfl) (fun _ _ _ h => h) (Or.inl ⟨?_, ?_⟩) hH0 ?_
  rotate_left
  · kernel_rfl
  · (intro W' _; go_simp; (try with_reducible rfl))
  (try simp only [List.getElem_toArray, List.getElem_cons_succ, List.getElem_cons_zero, Act.put, List.setIfInBounds_toArray, List.set_cons_succ, List.set_cons_zero])
  refine wpAnyH_take (i := 6) (oi := _) (v := ?_) rfl (by kernel_rfl) (by kernel_rfl) (by kernel_rfl) (fun _ _ _ h => h) (Or.inl ⟨?_, ?_⟩) hH0 ?_
  rotate_left
  · kernel_rfl
  · (intro W' _; go_simp; (try with_reducible rfl))
  (try simp only [List.getElem_toArray, List.getElem_cons_succ, List.getElem_cons_zero, Act.put, List.setIfInBounds_toArray, List.set_cons_succ, List.set_cons_zero])
  refine wpAnyH_take (i := 7) (oi := _) (v := ?_) rfl (by kernel_rfl) (by kernel_rfl) (by kernel_rfl) (fun _ _ _ h => h) (Or.inl ⟨?_, ?_⟩) hH0 ?_
  rotate_left
  · kernel_rfl
  · (intro W' _; go_simp; (try with_reducible rfl))
  (try simp only [List.getElem_toArray, List.getElem_cons_succ, List.getElem_cons_zero, Act.put, List.setIfInBounds_toArray, List.set_cons_succ, List.set_cons_zero])
  refine wpAnyH_take (i := 8) (oi := _) (v := ?_) rfl (by kernel_rfl) (by kernel_rfl) (by kernel_rfl) (fun _ _ _ h => h) (Or.inl ⟨?_, ?_⟩) hH0 ?_
  rotate_left
  · kernel_rfl
  · (intro W' _; go_simp; (try with_reducible rfl))
  (try simp only [List.getElem_toArray, List.getElem_cons_succ, List.getElem_cons_zero, Act.put, List.setIfInBounds_toArray, List.set_cons_succ, List.set_cons_zero])
  refine wpAnyH_take (i := 9) (oi := _) (v := ?_) rfl (by kernel_rfl) (by kernel_rfl) (by kernel_rfl) (fun _ _ _ h => h) (Or.inl ⟨?_, ?_⟩) hH0 ?_
  rotate_left
  · kernel_rfl
  · (intro W' hSw; have f0 := keepc hSw x0; have f1 := keepc hSw x1; have f2 := keepc hSw x2; have f3 := keepc hSw x3; go_simp; (try with_reducible rfl))
  (try simp only [List.getElem_toArray, List.getElem_cons_succ, List.getElem_cons_zero, Act.put, List.setIfInBounds_toArray, List.set_cons_succ, List.set_cons_zero])
  refine wpAnyH_take (i := 10) (oi := _) (v := ?_) rfl (by kernel_rfl) (by kernel_rfl) (by kernel_rfl) (fun _ _ _ h => h) (Or.inl ⟨?_, ?_⟩) hH0 ?_
  rotate_left
  · kernel_rfl
  · (intro W' _; go_simp; (try with_reducible rfl))
  (try simp only [List.getElem_toArray, List.getElem_cons_succ, List.getElem_cons_zero, Act.put, List.setIfInBounds_toArray, List.set_cons_succ, List.set_cons_zero])
  refine wpAnyH_take (i := 11) (oi := _) (v := ?_) rfl (by kernel_rfl) (by kernel_rfl) (by kernel_rfl) (fun _ _ _ h => h) (Or.inl ⟨?_, ?_⟩) hH0 ?_
  rotate_left
  · kernel_rfl
  · (intro W' _; go_simp; (try with_reducible rfl))
  (try simp only [List.getElem_toArray, List.getElem_cons_succ, List.getElem_cons_zero, Act.put, List.setIfInBounds_toArray, List.set_cons_succ, List.set_cons_zero])
  refine wpAnyH_take (i := 13) (oi := _) (v := ?_) rfl (by kernel_rfl) (by kernel_rfl) (by kernel_rfl) (fun _ _ _ h => h) (Or.inl ⟨?_, ?_⟩) hH0 ?_
  rotate_left
  · kernel_rfl
  · (intro W' hSw; have f0 := keepc hSw x0; have f1 := keepc hSw x1; have f2 := keepc hSw x2; have f3 := keepc hSw x3; go_simp; (try with_reducible rfl))
  (try simp only [List.getElem_toArray, List.getElem_cons_succ, List.getElem_cons_zero, Act.put, List.setIfInBounds_toArray, List.set_cons_succ, List.set_cons_zero])
  refine wpAnyH_take (i := 14) (oi := _) (v := ?_) rfl (by kernel_rfl) (by kernel_rfl) (by kernel_rfl) (fun _ _ _ h => h) (Or.inl ⟨?_, ?_⟩) hH0 ?_
  rotate_left
  · kernel_rfl
  · (intro W' _; go_simp; (try with_reducible rfl))
  (try simp only [List.getElem_toArray, List.getElem_cons_succ, List.getElem_cons_zero, Act.put, List.setIfInBounds_toArray, List.set_cons_succ, List.set_cons_zero])
  refine wpAnyH_take (i := 15) (oi := _) (v := ?_) rfl (by kernel_rfl) (by kernel_rfl) (by kernel_rfl) (fun _ _ _ h => h) (Or.inl ⟨?_, ?_⟩) hH0 ?_
  rotate_left
  · kernel_rfl
  · (intro W' _; go_simp; (try with_reducible rfl))
  (try simp only [List.getElem_toArray, List.getElem_cons_succ, List.getElem_cons_zero, Act.put, List.setIfInBounds_toArray, List.set_cons_succ, List.set_cons_zero])
  refine wpAnyH_ready (rs := [12]) (by kernel_rfl) (by simp) ?_
  refine AllReadyH.cons (o := _) rfl (fun K hK => ?_) AllReadyH.nil
  go_simp
  refine (C3.out _ (btr HB4.out hH0)).mono ?_
  rintro r w5 ⟨rfl, hb5⟩
  refine hK.out _ _ (btr hH0 hb5) (fun hH1 => ?_)
  clear hK K
  (try simp only [List.getElem_toArray, List.getElem_cons_succ, List.getElem_cons_zero, Act.put, List.setIfInBounds_toArray, List.set_cons_succ, List.set_cons_zero])
  refine wpAnyH_ready (rs := [16]) (by kernel_rfl) (by simp) ?_
  refine AllReadyH.cons (o := _) rfl (fun K hK => ?_) AllReadyH.nil
  go_simp
  refine (C4.out _ (btr HB4.out hH1)).mono ?_
  rintro r w6 ⟨rfl, hb6⟩
  refine hK.out _ _ (btr hH1 hb6) (fun hH2 => ?_)
  clear hK K
  (try simp only [List.getElem_toArray, List.getElem_cons_succ, List.getElem_cons_zero, Act.put, List.setIfInBounds_toArray, List.set_cons_succ, List.set_cons_zero])
  refine wpAnyH_take (i := 17) (oi := _) (v := ?_) rfl (by kernel_rfl) (by kernel_rfl) (by kernel_rfl) (fun _ _ _ h => h) (Or.inl ⟨?_, ?_⟩) hH2 ?_
  rotate_left
  · kernel_rfl
  · (intro W' _; go_simp; (try with_reducible rfl))
  (try simp only [List.getElem_toArray, List.getElem_cons_succ, List.getElem_cons_zero, Act.put, List.setIfInBounds_toArray, List.set_cons_succ, List.set_cons_zero])
  refine wpAnyH_take (i := 18) (oi := _) (v := ?_) rfl (by kernel_rfl) (by kernel_rfl) (by kernel_rfl) (fun _ _ _ h => h) (Or.inl ⟨?_, ?_⟩) hH2 ?_
  rotate_left
  · kernel_rfl
  · (intro W' _; go_simp; (try with_reducible rfl))
  (try simp only [List.getElem_toArray, List.getElem_cons_succ, List.getElem_cons_zero, Act.put, List.setIfInBounds_toArray, List.set_cons_succ, List.set_cons_zero])
  refine wpAnyH_take (i := 19) (oi := _) (v := ?_) rfl (by kernel_rfl) (by kernel_rfl) (by kernel_rfl) (fun _ _ _ h => h) (Or.inl ⟨?_, ?_⟩) hH2 ?_
  rotate_left
  · kernel_rfl
  · (intro W' _; go_simp; (try with_reducible rfl))
  (try simp only [List.getElem_toArray, List.getElem_cons_succ, List.getElem_cons_zero, Act.put, List.setIfInBounds_toArray, List.set_cons_succ, List.set_cons_zero])
  refine wpAnyH_ready (rs := [20]) (by kernel_rfl) (by simp) ?_
  refine AllReadyH.cons (o := _) rfl (fun K hK => ?_) AllReadyH.nil
  go_simp
  refine (CL.out _ (btr HB4.out hH2)).mono ?_
  rintro r w7 ⟨rfl, hb7⟩
  refine hK.out _ _ (btr hH2 hb7) (fun hH3 => ?_)
  clear hK K
  (try simp only [List.getElem_toArray, List.getElem_cons_succ, List.getElem_cons_zero, Act.put, List.setIfInBounds_toArray, List.set_cons_succ, List.set_cons_zero])
  refine wpAnyH_take (i := 21) (oi := _) (v := ?_) rfl (by kernel_rfl) (by kernel_rfl) (by kernel_rfl) (fun _ _ _ h => h) (Or.inl ⟨?_, ?_⟩) hH3 ?_
  rotate_left
  · kernel_rfl
  · (intro W' _; go_simp; (try with_reducible rfl))
  (try simp only [List.getElem_toArray, List.getElem_cons_succ, List.getElem_cons_zero, Act.put, List.setIfInBounds_toArray, List.set_cons_succ, List.set_cons_zero])
  refine wpAnyH_take (i := 22) (oi := _) (v := ?_) rfl (by kernel_rfl) (by kernel_rfl) (by kernel_rfl) (fun _ _ _ h => h) (Or.inl ⟨?_, ?_⟩) hH3 ?_
  rotate_left
  · kernel_rfl
  · (intro W' _; go_simp; (try with_reducible rfl))
  (try simp only [List.getElem_toArray, List.getElem_cons_succ, List.getElem_cons_zero, Act.put, List.setIfInBounds_toArray, List.set_cons_succ, List.set_cons_zero])
  refine wpAnyH_done (by kernel_rfl) ?_ _
  go_wp2_with fail
  go_ret
  exact ⟨rfl, btr HB4.out hH3⟩
end Go.Proofs.YtcnnkobiijhegaaGreatDoor
