/-
  The parser: the library's reading of numbers; number.
-/
import Derived.Test.YtplkphihmfhciaaGreatDoorMF
import Derived.Shelf.Strconv.ErrVarAll
namespace Go.Proofs.YtplkphihmfhciaaGreatDoor
open Go Go.RowKit Go.Lib Go.Shelf WM TM EM

theorem atoi_num {x : List UInt8} (h : nOk x = true) : atoiAll x = .ok (nV x) ∧ 0 ≤ nV x ∧ nT (nV x) = x := by
 have hb := nT_back x h
 unfold nOk at h
 simp only [Bool.and_eq_true, decide_eq_true_eq] at h
 obtain ⟨h1, h2, h3⟩ := tiE_zero h.1
 have ha := atoi_ti x h1
 have hi : i64B (tiN x) = true := by simpa [i64B, I64] using h2
 rw [if_pos hi] at ha
 exact ⟨by unfold nV; rw [h3]; exact ha, h.2, hb⟩
theorem num_atoi {x : List UInt8} {v : Int} (h : atoiAll x = .ok v) (h0 : 0 ≤ v) (hx : nT v = x) : nOk x = true ∧ nV x = v := by
 have hb := atoiAll_bounds h
 rw [← hx]
 exact nT_reads v h0 hb.2
theorem matoi (x : List UInt8) (hl : x.length ≤ 281474976710656) (w : World) (hE : Er w) (hS : Es w) :
  Calls Tryz.prog 123 #[.string (str x)] w fun e w' => (∃ v er, e = .returned (.tuple #[.int .i64 v, er]) ∧ ((atoiAll x = .ok v ∧ er = .nilIface) ∨ ((∀ u, atoiAll x ≠ .ok u) ∧ ∃ t p, er = .iface t p))) ∧ Below w.heap.size w w' := by
 have hsz : (str x).size ≤ 281474976710656 := by rw [str_size]; exact hl
 have hls : (str x).data.toList = x := str_list x
 cases h : atoiAll x with
 | ok v =>
  refine (Tryz.strconv_Atoi_ok (str x) (by omega) v (by rw [hls]; exact h) w).mono fun e w' ⟨he, hw⟩ => ⟨⟨_, _, he, Or.inl ⟨rfl, rfl⟩⟩, ?_⟩
  rcases hw with rfl | ⟨t, rfl⟩
  ·exact bref _
  ·exact Lib.bytesWorld_below _ _ _
 | range =>
  obtain ⟨tp, p, hv⟩ := hE
  refine (Tryz.strconv_Atoi_range_var (str x) hsz (by rw [hls]; exact h) tp p w hv).mono fun e w' ⟨N, he, _, _, hw⟩ => ⟨⟨_, _, he, Or.inr ⟨(fun u e => by cases e), _, _, rfl⟩⟩, hw⟩
 | _ =>
  obtain ⟨tp, p, hv⟩ := hS
  refine (Any.strconv_Atoi_syntax_var Tryz.laysC172 (str x) hsz (by rw [hls]; exact h) tp p w hv).mono fun e w' ⟨N, he, _, _, hw⟩ => ⟨⟨_, _, he, Or.inr ⟨(fun u e => by cases e), _, _, rfl⟩⟩, hw⟩
set_option maxRecDepth 100000 in
set_option maxHeartbeats 4000000 in
theorem qnumber (wb : World) (pb : Nat) (ao : Option Addr) (c : Nat) (l : List Tok) (g : Ga wb pb ao c l) (k : Nat) (w : World) (h : Pa wb pb ao c l k w) (B : Bool) (hB : (decide ((l.getD k T0).1 = 2) && nOk (l.getD k T0).2.2) = B) :
  Calls Tryz.prog 99 #[.pointer (some ⟨pb, 0, none⟩)] w fun r w' => (if B then r = .returned (.int .i64 (nV (l.getD k T0).2.2)) ∧ Pa wb pb ao c l (k + 1) w' else r = Wr k) ∧ Kp pb w w' := by
 have NX := Lib.hid (fun W h => mnext wb pb ao c l g k W h)
 have FA := Lib.hid (fun W h => mfail wb pb ao c l g k W h)
 have hlen : (l.getD k T0).2.2.length ≤ 1000000 := by
  by_cases hk : k < l.length
  ·exact g.txt _ (getD_mem' T0 l k hk)
  ·rw [List.getD_eq_getElem?_getD, List.getElem?_eq_none (by omega)]; decide
 have hlt : (l.getD k T0).1 = 2 → k < l.length := by
  intro h2
  rcases Nat.lt_or_ge k l.length with h' | h'
  ·exact h'
  ·rw [List.getD_eq_getElem?_getD, List.getElem?_eq_none h'] at h2; exact absurd h2 (by decide)
 generalize hT : l.getD k T0 = T at NX hlen hlt hB ⊢
 have AT := Lib.hid (fun W (hW : Below wb.heap.size wb W) => matoi T.2.2 (by omega) W (g.gf.1.2.2.keep hW) (g.es.keep hW))
 have IT := Lib.hid (fun n h0 h1 W (hW : Below wb.heap.size wb W) => mitoa2 n h0 h1 W (g.gf.2.keep hW))
 have H := Lib.hid h
 have HLT := Lib.hid hlt
 have HG := Lib.hid g
 clear hT h hlen hlt g
 go_enter Tryz.func99, Tryz.ntmps99
 go_wp2_with fail
 refine (NX.out _ H.out).mono ?_
 rintro r w1 ⟨rfl, hb1⟩
 have H1 := Lib.hid (H.out.keep hb1)
 have HB1 := Lib.hid hb1
 clear hb1
 unfold tv
 go_wp2_with fail
 refine (AT.out _ (H1.out.keep (bal (bref _) _)).b).mono ?_
 rintro r w2 ⟨⟨v, er, rfl, hc⟩, hb2⟩
 have x0 : (w1.alloc (.cells #[.int .i64 T.1, .int .i64 T.2.1, .string (str T.2.2)] 44)).cell? ⟨w1.heap.size, 0, none⟩ = some (.int .i64 T.1) := by simp [go_sem]
 have x1 : (w1.alloc (.cells #[.int .i64 T.1, .int .i64 T.2.1, .string (str T.2.2)] 44)).cell? ⟨w1.heap.size, 1, none⟩ = some (.int .i64 T.2.1) := by simp [go_sem]
 have x2 : (w1.alloc (.cells #[.int .i64 T.1, .int .i64 T.2.1, .string (str T.2.2)] 44)).cell? ⟨w1.heap.size, 2, none⟩ = some (.string (str T.2.2)) := by simp [go_sem]
 have y0 := keepc hb2 x0
 have y1 := keepc hb2 x1
 have y2 := keepc hb2 x2
 have hb12 := btr (bal (bref w1) _) hb2
 have H2 := Lib.hid (H1.out.keep hb12)
 have K2 := Lib.hid ((Kp.of_below (pb := pb) HB1.out).trans (Kp.of_below hb12))
 clear hb2 hb12 x0 x1 x2
 by_cases h1 : T.1 = 2
 ·have h1' : (T.1 == 2) = true := by rw [beq_iff_eq]; exact h1
  rw [decide_eq_true h1, Bool.true_and] at hB
  have D1 : (T.1 != 2) = false := by rw [bne, h1']; rfl
  have D2 : decide (T.1 = 2) = true := decide_eq_true h1
  have D3 := h1'
  have D4 : decide (¬ T.1 = 2) = false := decide_eq_false (fun h => h h1)
  have HLT2 := Lib.hid (HLT.out h1)
  rcases hc with ⟨hv, rfl⟩ | ⟨hv, t, p, rfl⟩
  ·by_cases h3 : v < 0
   ·have D5 : decide (v < 0) = true := decide_eq_true h3
    have hBf : B = false := by
     rw [← hB]
     cases hq : nOk T.2.2 with
     | false => rfl
     | true =>
      have hq2 := atoi_num hq
      rw [hv] at hq2
      have e := hq2.1
      injection e with e
      omega
    subst hBf
    simp only [Bool.false_eq_true, if_false]
    clear hB
    go_wp2_with fail
    refine wp_region_held_drew (S := (fun W => Below w2.heap.size w2 W)) (by kernel_rfl) (bdr (bref _)) (fun hH0 => ?_)
    refine wpAnyH_take (i := 0) (oi := _) (v := ?_) rfl (by kernel_rfl) (by kernel_rfl) (by kernel_rfl) (fun _ _ _ h => h) (Or.inl ⟨?_, ?_⟩) hH0 ?_
    rotate_left
    ·kernel_rfl
    ·(intro W' _; go_simp; (try with_reducible rfl))
    (try simp only [List.getElem_toArray, List.getElem_cons_succ, List.getElem_cons_zero, Act.put, List.setIfInBounds_toArray, List.set_cons_succ, List.set_cons_zero])
    refine wpAnyH_take (i := 1) (oi := _) (v := ?_) rfl (by kernel_rfl) (by kernel_rfl) (by kernel_rfl) (fun _ _ _ h => h) (Or.inl ⟨?_, ?_⟩) hH0 ?_
    rotate_left
    ·kernel_rfl
    ·(intro W' hSw; have f0 := keepc hSw y0; have f1 := keepc hSw y1; have f2 := keepc hSw y2; go_simp; (try with_reducible rfl))
    (try simp only [List.getElem_toArray, List.getElem_cons_succ, List.getElem_cons_zero, Act.put, List.setIfInBounds_toArray, List.set_cons_succ, List.set_cons_zero])
    refine wpAnyH_take (i := 2) (oi := _) (v := ?_) rfl (by kernel_rfl) (by kernel_rfl) (by kernel_rfl) (fun _ _ _ h => h) (Or.inl ⟨?_, ?_⟩) hH0 ?_
    rotate_left
    ·kernel_rfl
    ·(intro W' _; go_simp; (try simp only [D1, D2, D3, D4, D5, Bool.not_false, Bool.not_true]); (try with_reducible rfl))
    (try simp only [List.getElem_toArray, List.getElem_cons_succ, List.getElem_cons_zero, Act.put, List.setIfInBounds_toArray, List.set_cons_succ, List.set_cons_zero])
    refine wpAnyH_take (i := 3) (oi := _) (v := ?_) rfl (by kernel_rfl) (by kernel_rfl) (by kernel_rfl) (fun _ _ _ h => h) (Or.inl ⟨?_, ?_⟩) hH0 ?_
    rotate_left
    ·kernel_rfl
    ·(intro W' _; go_simp; (try with_reducible rfl))
    (try simp only [List.getElem_toArray, List.getElem_cons_succ, List.getElem_cons_zero, Act.put, List.setIfInBounds_toArray, List.set_cons_succ, List.set_cons_zero])
    refine wpAnyH_take (i := 4) (oi := _) (v := ?_) rfl (by kernel_rfl) (by kernel_rfl) (by kernel_rfl) (fun _ _ _ h => h) (Or.inl ⟨?_, ?_⟩) hH0 ?_
    rotate_left
    ·kernel_rfl
    ·(intro W' _; go_simp; (try with_reducible rfl))
    (try simp only [List.getElem_toArray, List.getElem_cons_succ, List.getElem_cons_zero, Act.put, List.setIfInBounds_toArray, List.set_cons_succ, List.set_cons_zero])
    refine wpAnyH_take (i := 5) (oi := _) (v := ?_) rfl (by kernel_rfl) (by kernel_rfl) (by kernel_rfl) (fun _ _ _ h => h) (Or.inl ⟨?_, ?_⟩) hH0 ?_
    rotate_left
    ·kernel_rfl
    ·(intro W' _; go_simp; (try simp only [D1, D2, D3, D4, D5, Bool.not_false, Bool.not_true]); (try with_reducible rfl))
    (try simp only [List.getElem_toArray, List.getElem_cons_succ, List.getElem_cons_zero, Act.put, List.setIfInBounds_toArray, List.set_cons_succ, List.set_cons_zero])
    refine wpAnyH_take (i := 6) (oi := _) (v := ?_) rfl (by kernel_rfl) (by kernel_rfl) (by kernel_rfl) (fun _ _ _ h => h) (Or.inl ⟨?_, ?_⟩) hH0 ?_
    rotate_left
    ·kernel_rfl
    ·(intro W' _; go_simp; (try simp only [D1, D2, D3, D4, D5, Bool.not_false, Bool.not_true]); (try with_reducible rfl))
    (try simp only [List.getElem_toArray, List.getElem_cons_succ, List.getElem_cons_zero, Act.put, List.setIfInBounds_toArray, List.set_cons_succ, List.set_cons_zero])
    refine wpAnyH_take (i := 7) (oi := _) (v := ?_) rfl (by kernel_rfl) (by kernel_rfl) (by kernel_rfl) (fun _ _ _ h => h) (Or.inl ⟨?_, ?_⟩) hH0 ?_
    rotate_left
    ·kernel_rfl
    ·(intro W' _; go_simp; (try with_reducible rfl))
    (try simp only [List.getElem_toArray, List.getElem_cons_succ, List.getElem_cons_zero, Act.put, List.setIfInBounds_toArray, List.set_cons_succ, List.set_cons_zero])
    refine wpAnyH_take (i := 8) (oi := _) (v := ?_) rfl (by kernel_rfl) (by kernel_rfl) (by kernel_rfl) (fun _ _ _ h => h) (Or.inl ⟨?_, ?_⟩) hH0 ?_
    rotate_left
    ·kernel_rfl
    ·(intro W' _; go_simp; (try with_reducible rfl))
    (try simp only [List.getElem_toArray, List.getElem_cons_succ, List.getElem_cons_zero, Act.put, List.setIfInBounds_toArray, List.set_cons_succ, List.set_cons_zero])
    refine wpAnyH_take (i := 9) (oi := _) (v := ?_) rfl (by kernel_rfl) (by kernel_rfl) (by kernel_rfl) (fun _ _ _ h => h) (Or.inl ⟨?_, ?_⟩) hH0 ?_
    rotate_left
    ·kernel_rfl
    ·(intro W' _; go_simp; (try simp only [D1, D2, D3, D4, D5, Bool.not_false, Bool.not_true]); (try with_reducible rfl))
    (try simp only [List.getElem_toArray, List.getElem_cons_succ, List.getElem_cons_zero, Act.put, List.setIfInBounds_toArray, List.set_cons_succ, List.set_cons_zero])
    refine wpAnyH_take (i := 10) (oi := _) (v := ?_) rfl (by kernel_rfl) (by kernel_rfl) (by kernel_rfl) (fun _ _ _ h => h) (Or.inl ⟨?_, ?_⟩) hH0 ?_
    rotate_left
    ·kernel_rfl
    ·(intro W' _; go_simp; (try simp only [D1, D2, D3, D4, D5, Bool.not_false, Bool.not_true]); (try with_reducible rfl))
    (try simp only [List.getElem_toArray, List.getElem_cons_succ, List.getElem_cons_zero, Act.put, List.setIfInBounds_toArray, List.set_cons_succ, List.set_cons_zero])
    refine wpAnyH_take (i := 11) (oi := _) (v := ?_) rfl (by kernel_rfl) (by kernel_rfl) (by kernel_rfl) (fun _ _ _ h => h) (Or.inl ⟨?_, ?_⟩) hH0 ?_
    rotate_left
    ·kernel_rfl
    ·(intro W' _; go_simp; (try with_reducible rfl))
    (try simp only [List.getElem_toArray, List.getElem_cons_succ, List.getElem_cons_zero, Act.put, List.setIfInBounds_toArray, List.set_cons_succ, List.set_cons_zero])
    refine wpAnyH_take (i := 12) (oi := _) (v := undef) rfl (by kernel_rfl) (by kernel_rfl) (by kernel_rfl) (fun _ _ _ h => h) (Or.inr ⟨?_, rfl⟩) hH0 ?_
    ·kernel_rfl
    refine wpAnyH_take (i := 13) (oi := _) (v := undef) rfl (by kernel_rfl) (by kernel_rfl) (by kernel_rfl) (fun _ _ _ h => h) (Or.inr ⟨?_, rfl⟩) hH0 ?_
    ·kernel_rfl
    refine wpAnyH_take (i := 14) (oi := _) (v := undef) rfl (by kernel_rfl) (by kernel_rfl) (by kernel_rfl) (fun _ _ _ h => h) (Or.inr ⟨?_, rfl⟩) hH0 ?_
    ·kernel_rfl
    refine wpAnyH_take (i := 15) (oi := _) (v := undef) rfl (by kernel_rfl) (by kernel_rfl) (by kernel_rfl) (fun _ _ _ h => h) (Or.inr ⟨?_, rfl⟩) hH0 ?_
    ·kernel_rfl
    refine wpAnyH_take (i := 16) (oi := _) (v := undef) rfl (by kernel_rfl) (by kernel_rfl) (by kernel_rfl) (fun _ _ _ h => h) (Or.inr ⟨?_, rfl⟩) hH0 ?_
    ·kernel_rfl
    (try simp only [List.getElem_toArray, List.getElem_cons_succ, List.getElem_cons_zero, Act.put, List.setIfInBounds_toArray, List.set_cons_succ, List.set_cons_zero])
    refine wpAnyH_take (i := 17) (oi := _) (v := ?_) rfl (by kernel_rfl) (by kernel_rfl) (by kernel_rfl) (fun _ _ _ h => h) (Or.inl ⟨?_, ?_⟩) hH0 ?_
    rotate_left
    ·kernel_rfl
    ·(intro W' _; go_simp; (try simp only [D1, D2, D3, D4, D5, Bool.not_false, Bool.not_true]); (try with_reducible rfl))
    (try simp only [List.getElem_toArray, List.getElem_cons_succ, List.getElem_cons_zero, Act.put, List.setIfInBounds_toArray, List.set_cons_succ, List.set_cons_zero])
    refine wpAnyH_done (by kernel_rfl) ?_ _
    have HR := Lib.hid hH0
    clear hH0
    go_wp2_with fail
    refine (FA.out _ (H2.out.keep HR.out)).mono ?_
    rintro r w3 ⟨rfl, k3⟩
    unfold Wr
    exact ⟨rfl, rfl, (K2.out.trans (Kp.of_below HR.out)).trans k3⟩
   ·have D5 : decide (v < 0) = false := decide_eq_false h3
    have hmx := (atoiAll_bounds hv).2
    have ITv := Lib.hid (fun W hW => IT.out v (by omega) hmx W hW)
    by_cases h4 : nT v = T.2.2
    ·have hq := num_atoi hv (by omega) h4
     rw [hq.1] at hB
     subst hB
     have HQV := Lib.hid hq.2
     rw [h4] at ITv
     have D6 : ((str T.2.2).toList == (str T.2.2).toList) = true := beq_self_eq_true _
     have hw := wrap_at k (by have := HLT2.out; have := HG.out.len; omega)
     clear hmx hq h4 hv
     go_wp2_with fail
     refine wp_region_held_drew (S := (fun W => Below w2.heap.size w2 W)) (by kernel_rfl) (bdr (bref _)) (fun hH0 => ?_)
     refine wpAnyH_take (i := 0) (oi := _) (v := ?_) rfl (by kernel_rfl) (by kernel_rfl) (by kernel_rfl) (fun _ _ _ h => h) (Or.inl ⟨?_, ?_⟩) hH0 ?_
     rotate_left
     ·kernel_rfl
     ·(intro W' _; go_simp; (try with_reducible rfl))
     (try simp only [List.getElem_toArray, List.getElem_cons_succ, List.getElem_cons_zero, Act.put, List.setIfInBounds_toArray, List.set_cons_succ, List.set_cons_zero])
     refine wpAnyH_take (i := 1) (oi := _) (v := ?_) rfl (by kernel_rfl) (by kernel_rfl) (by kernel_rfl) (fun _ _ _ h => h) (Or.inl ⟨?_, ?_⟩) hH0 ?_
     rotate_left
     ·kernel_rfl
     ·(intro W' hSw; have f0 := keepc hSw y0; have f1 := keepc hSw y1; have f2 := keepc hSw y2; go_simp; (try with_reducible rfl))
     (try simp only [List.getElem_toArray, List.getElem_cons_succ, List.getElem_cons_zero, Act.put, List.setIfInBounds_toArray, List.set_cons_succ, List.set_cons_zero])
     refine wpAnyH_take (i := 2) (oi := _) (v := ?_) rfl (by kernel_rfl) (by kernel_rfl) (by kernel_rfl) (fun _ _ _ h => h) (Or.inl ⟨?_, ?_⟩) hH0 ?_
     rotate_left
     ·kernel_rfl
     ·(intro W' _; go_simp; (try simp only [D1, D2, D3, D4, D5, D6, Bool.not_false, Bool.not_true]); (try with_reducible rfl))
     (try simp only [List.getElem_toArray, List.getElem_cons_succ, List.getElem_cons_zero, Act.put, List.setIfInBounds_toArray, List.set_cons_succ, List.set_cons_zero])
     refine wpAnyH_take (i := 3) (oi := _) (v := ?_) rfl (by kernel_rfl) (by kernel_rfl) (by kernel_rfl) (fun _ _ _ h => h) (Or.inl ⟨?_, ?_⟩) hH0 ?_
     rotate_left
     ·kernel_rfl
     ·(intro W' _; go_simp; (try with_reducible rfl))
     (try simp only [List.getElem_toArray, List.getElem_cons_succ, List.getElem_cons_zero, Act.put, List.setIfInBounds_toArray, List.set_cons_succ, List.set_cons_zero])
     refine wpAnyH_take (i := 4) (oi := _) (v := ?_) rfl (by kernel_rfl) (by kernel_rfl) (by kernel_rfl) (fun _ _ _ h => h) (Or.inl ⟨?_, ?_⟩) hH0 ?_
     rotate_left
     ·kernel_rfl
     ·(intro W' _; go_simp; (try with_reducible rfl))
     (try simp only [List.getElem_toArray, List.getElem_cons_succ, List.getElem_cons_zero, Act.put, List.setIfInBounds_toArray, List.set_cons_succ, List.set_cons_zero])
     refine wpAnyH_take (i := 5) (oi := _) (v := ?_) rfl (by kernel_rfl) (by kernel_rfl) (by kernel_rfl) (fun _ _ _ h => h) (Or.inl ⟨?_, ?_⟩) hH0 ?_
     rotate_left
     ·kernel_rfl
     ·(intro W' _; go_simp; (try simp only [D1, D2, D3, D4, D5, D6, Bool.not_false, Bool.not_true]); (try with_reducible rfl))
     (try simp only [List.getElem_toArray, List.getElem_cons_succ, List.getElem_cons_zero, Act.put, List.setIfInBounds_toArray, List.set_cons_succ, List.set_cons_zero])
     refine wpAnyH_take (i := 6) (oi := _) (v := ?_) rfl (by kernel_rfl) (by kernel_rfl) (by kernel_rfl) (fun _ _ _ h => h) (Or.inl ⟨?_, ?_⟩) hH0 ?_
     rotate_left
     ·kernel_rfl
     ·(intro W' _; go_simp; (try simp only [D1, D2, D3, D4, D5, D6, Bool.not_false, Bool.not_true]); (try with_reducible rfl))
     (try simp only [List.getElem_toArray, List.getElem_cons_succ, List.getElem_cons_zero, Act.put, List.setIfInBounds_toArray, List.set_cons_succ, List.set_cons_zero])
     refine wpAnyH_take (i := 7) (oi := _) (v := ?_) rfl (by kernel_rfl) (by kernel_rfl) (by kernel_rfl) (fun _ _ _ h => h) (Or.inl ⟨?_, ?_⟩) hH0 ?_
     rotate_left
     ·kernel_rfl
     ·(intro W' _; go_simp; (try with_reducible rfl))
     (try simp only [List.getElem_toArray, List.getElem_cons_succ, List.getElem_cons_zero, Act.put, List.setIfInBounds_toArray, List.set_cons_succ, List.set_cons_zero])
     refine wpAnyH_take (i := 8) (oi := _) (v := ?_) rfl (by kernel_rfl) (by kernel_rfl) (by kernel_rfl) (fun _ _ _ h => h) (Or.inl ⟨?_, ?_⟩) hH0 ?_
     rotate_left
     ·kernel_rfl
     ·(intro W' _; go_simp; (try with_reducible rfl))
     (try simp only [List.getElem_toArray, List.getElem_cons_succ, List.getElem_cons_zero, Act.put, List.setIfInBounds_toArray, List.set_cons_succ, List.set_cons_zero])
     refine wpAnyH_take (i := 9) (oi := _) (v := ?_) rfl (by kernel_rfl) (by kernel_rfl) (by kernel_rfl) (fun _ _ _ h => h) (Or.inl ⟨?_, ?_⟩) hH0 ?_
     rotate_left
     ·kernel_rfl
     ·(intro W' _; go_simp; (try simp only [D1, D2, D3, D4, D5, D6, Bool.not_false, Bool.not_true]); (try with_reducible rfl))
     (try simp only [List.getElem_toArray, List.getElem_cons_succ, List.getElem_cons_zero, Act.put, List.setIfInBounds_toArray, List.set_cons_succ, List.set_cons_zero])
     refine wpAnyH_take (i := 10) (oi := _) (v := ?_) rfl (by kernel_rfl) (by kernel_rfl) (by kernel_rfl) (fun _ _ _ h => h) (Or.inl ⟨?_, ?_⟩) hH0 ?_
     rotate_left
     ·kernel_rfl
     ·(intro W' _; go_simp; (try simp only [D1, D2, D3, D4, D5, D6, Bool.not_false, Bool.not_true]); (try with_reducible rfl))
     (try simp only [List.getElem_toArray, List.getElem_cons_succ, List.getElem_cons_zero, Act.put, List.setIfInBounds_toArray, List.set_cons_succ, List.set_cons_zero])
     refine wpAnyH_take (i := 11) (oi := _) (v := ?_) rfl (by kernel_rfl) (by kernel_rfl) (by kernel_rfl) (fun _ _ _ h => h) (Or.inl ⟨?_, ?_⟩) hH0 ?_
     rotate_left
     ·kernel_rfl
     ·(intro W' _; go_simp; (try with_reducible rfl))
     (try simp only [List.getElem_toArray, List.getElem_cons_succ, List.getElem_cons_zero, Act.put, List.setIfInBounds_toArray, List.set_cons_succ, List.set_cons_zero])
     refine wpAnyH_take (i := 12) (oi := _) (v := ?_) rfl (by kernel_rfl) (by kernel_rfl) (by kernel_rfl) (fun _ _ _ h => h) (Or.inl ⟨?_, ?_⟩) hH0 ?_
     rotate_left
     ·kernel_rfl
     ·(intro W' _; go_simp; (try with_reducible rfl))
     (try simp only [List.getElem_toArray, List.getElem_cons_succ, List.getElem_cons_zero, Act.put, List.setIfInBounds_toArray, List.set_cons_succ, List.set_cons_zero])
     refine wpAnyH_take (i := 14) (oi := _) (v := ?_) rfl (by kernel_rfl) (by kernel_rfl) (by kernel_rfl) (fun _ _ _ h => h) (Or.inl ⟨?_, ?_⟩) hH0 ?_
     rotate_left
     ·kernel_rfl
     ·(intro W' _; go_simp; (try with_reducible rfl))
     (try simp only [List.getElem_toArray, List.getElem_cons_succ, List.getElem_cons_zero, Act.put, List.setIfInBounds_toArray, List.set_cons_succ, List.set_cons_zero])
     refine wpAnyH_take (i := 15) (oi := _) (v := ?_) rfl (by kernel_rfl) (by kernel_rfl) (by kernel_rfl) (fun _ _ _ h => h) (Or.inl ⟨?_, ?_⟩) hH0 ?_
     rotate_left
     ·kernel_rfl
     ·(intro W' hSw; have f0 := keepc hSw y0; have f1 := keepc hSw y1; have f2 := keepc hSw y2; go_simp; (try with_reducible rfl))
     (try simp only [List.getElem_toArray, List.getElem_cons_succ, List.getElem_cons_zero, Act.put, List.setIfInBounds_toArray, List.set_cons_succ, List.set_cons_zero])
     refine wpAnyH_ready (rs := [13]) (by kernel_rfl) (by simp) ?_
     refine AllReadyH.cons (o := _) rfl (fun K hK => ?_) AllReadyH.nil
     go_simp
     refine (ITv.out _ (H2.out.b.trans (hH0.mono H2.out.b.size))).mono ?_
     rintro r w3 ⟨rfl, hb3⟩
     refine hK.out _ _ (btr hH0 hb3) (fun hH1 => ?_)
     clear hK K
     (try simp only [List.getElem_toArray, List.getElem_cons_succ, List.getElem_cons_zero, Act.put, List.setIfInBounds_toArray, List.set_cons_succ, List.set_cons_zero])
     refine wpAnyH_take (i := 16) (oi := _) (v := ?_) rfl (by kernel_rfl) (by kernel_rfl) (by kernel_rfl) (fun _ _ _ h => h) (Or.inl ⟨?_, ?_⟩) hH1 ?_
     rotate_left
     ·kernel_rfl
     ·(intro W' _; go_simp; (try simp only [D1, D2, D3, D4, D5, D6, Bool.not_false, Bool.not_true]); (try with_reducible rfl))
     (try simp only [List.getElem_toArray, List.getElem_cons_succ, List.getElem_cons_zero, Act.put, List.setIfInBounds_toArray, List.set_cons_succ, List.set_cons_zero])
     refine wpAnyH_take (i := 17) (oi := _) (v := ?_) rfl (by kernel_rfl) (by kernel_rfl) (by kernel_rfl) (fun _ _ _ h => h) (Or.inl ⟨?_, ?_⟩) hH1 ?_
     rotate_left
     ·kernel_rfl
     ·(intro W' _; go_simp; (try simp only [D1, D2, D3, D4, D5, D6, Bool.not_false, Bool.not_true]); (try with_reducible rfl))
     (try simp only [List.getElem_toArray, List.getElem_cons_succ, List.getElem_cons_zero, Act.put, List.setIfInBounds_toArray, List.set_cons_succ, List.set_cons_zero])
     refine wpAnyH_done (by kernel_rfl) ?_ _
     have HR := Lib.hid hH1
     clear hH0 hH1
     have HQ := Lib.hid (H2.out.keep HR.out)
     have c1 := HQ.out.c1
     have fr := HQ.out.fr
     go_wp2_with fail
     go_ret
     exact ⟨⟨by rw [HQV.out]; rfl, HQ.out.step HG.out.up HLT2.out⟩, (K2.out.trans (Kp.of_below HR.out)).trans (Kp.set pb _ 1 _)⟩
    ·have hBf : B = false := by
      rw [← hB]
      cases hq : nOk T.2.2 with
      | false => rfl
      | true =>
       have hq2 := atoi_num hq
       rw [hv] at hq2
       have e := hq2.1
       injection e with e
       rw [← e] at hq2
       exact absurd hq2.2.2 h4
     subst hBf
     simp only [Bool.false_eq_true, if_false]
     have D6 := str_ne h4
     clear hB hmx hv h4
     go_wp2_with fail
     refine wp_region_held_drew (S := (fun W => Below w2.heap.size w2 W)) (by kernel_rfl) (bdr (bref _)) (fun hH0 => ?_)
     refine wpAnyH_take (i := 0) (oi := _) (v := ?_) rfl (by kernel_rfl) (by kernel_rfl) (by kernel_rfl) (fun _ _ _ h => h) (Or.inl ⟨?_, ?_⟩) hH0 ?_
     rotate_left
     ·kernel_rfl
     ·(intro W' _; go_simp; (try with_reducible rfl))
     (try simp only [List.getElem_toArray, List.getElem_cons_succ, List.getElem_cons_zero, Act.put, List.setIfInBounds_toArray, List.set_cons_succ, List.set_cons_zero])
     refine wpAnyH_take (i := 1) (oi := _) (v := ?_) rfl (by kernel_rfl) (by kernel_rfl) (by kernel_rfl) (fun _ _ _ h => h) (Or.inl ⟨?_, ?_⟩) hH0 ?_
     rotate_left
     ·kernel_rfl
     ·(intro W' hSw; have f0 := keepc hSw y0; have f1 := keepc hSw y1; have f2 := keepc hSw y2; go_simp; (try with_reducible rfl))
     (try simp only [List.getElem_toArray, List.getElem_cons_succ, List.getElem_cons_zero, Act.put, List.setIfInBounds_toArray, List.set_cons_succ, List.set_cons_zero])
     refine wpAnyH_take (i := 2) (oi := _) (v := ?_) rfl (by kernel_rfl) (by kernel_rfl) (by kernel_rfl) (fun _ _ _ h => h) (Or.inl ⟨?_, ?_⟩) hH0 ?_
     rotate_left
     ·kernel_rfl
     ·(intro W' _; go_simp; (try simp only [D1, D2, D3, D4, D5, D6, Bool.not_false, Bool.not_true]); (try with_reducible rfl))
     (try simp only [List.getElem_toArray, List.getElem_cons_succ, List.getElem_cons_zero, Act.put, List.setIfInBounds_toArray, List.set_cons_succ, List.set_cons_zero])
     refine wpAnyH_take (i := 3) (oi := _) (v := ?_) rfl (by kernel_rfl) (by kernel_rfl) (by kernel_rfl) (fun _ _ _ h => h) (Or.inl ⟨?_, ?_⟩) hH0 ?_
     rotate_left
     ·kernel_rfl
     ·(intro W' _; go_simp; (try with_reducible rfl))
     (try simp only [List.getElem_toArray, List.getElem_cons_succ, List.getElem_cons_zero, Act.put, List.setIfInBounds_toArray, List.set_cons_succ, List.set_cons_zero])
     refine wpAnyH_take (i := 4) (oi := _) (v := ?_) rfl (by kernel_rfl) (by kernel_rfl) (by kernel_rfl) (fun _ _ _ h => h) (Or.inl ⟨?_, ?_⟩) hH0 ?_
     rotate_left
     ·kernel_rfl
     ·(intro W' _; go_simp; (try with_reducible rfl))
     (try simp only [List.getElem_toArray, List.getElem_cons_succ, List.getElem_cons_zero, Act.put, List.setIfInBounds_toArray, List.set_cons_succ, List.set_cons_zero])
     refine wpAnyH_take (i := 5) (oi := _) (v := ?_) rfl (by kernel_rfl) (by kernel_rfl) (by kernel_rfl) (fun _ _ _ h => h) (Or.inl ⟨?_, ?_⟩) hH0 ?_
     rotate_left
     ·kernel_rfl
     ·(intro W' _; go_simp; (try simp only [D1, D2, D3, D4, D5, D6, Bool.not_false, Bool.not_true]); (try with_reducible rfl))
     (try simp only [List.getElem_toArray, List.getElem_cons_succ, List.getElem_cons_zero, Act.put, List.setIfInBounds_toArray, List.set_cons_succ, List.set_cons_zero])
     refine wpAnyH_take (i := 6) (oi := _) (v := ?_) rfl (by kernel_rfl) (by kernel_rfl) (by kernel_rfl) (fun _ _ _ h => h) (Or.inl ⟨?_, ?_⟩) hH0 ?_
     rotate_left
     ·kernel_rfl
     ·(intro W' _; go_simp; (try simp only [D1, D2, D3, D4, D5, D6, Bool.not_false, Bool.not_true]); (try with_reducible rfl))
     (try simp only [List.getElem_toArray, List.getElem_cons_succ, List.getElem_cons_zero, Act.put, List.setIfInBounds_toArray, List.set_cons_succ, List.set_cons_zero])
     refine wpAnyH_take (i := 7) (oi := _) (v := ?_) rfl (by kernel_rfl) (by kernel_rfl) (by kernel_rfl) (fun _ _ _ h => h) (Or.inl ⟨?_, ?_⟩) hH0 ?_
     rotate_left
     ·kernel_rfl
     ·(intro W' _; go_simp; (try with_reducible rfl))
     (try simp only [List.getElem_toArray, List.getElem_cons_succ, List.getElem_cons_zero, Act.put, List.setIfInBounds_toArray, List.set_cons_succ, List.set_cons_zero])
     refine wpAnyH_take (i := 8) (oi := _) (v := ?_) rfl (by kernel_rfl) (by kernel_rfl) (by kernel_rfl) (fun _ _ _ h => h) (Or.inl ⟨?_, ?_⟩) hH0 ?_
     rotate_left
     ·kernel_rfl
     ·(intro W' _; go_simp; (try with_reducible rfl))
     (try simp only [List.getElem_toArray, List.getElem_cons_succ, List.getElem_cons_zero, Act.put, List.setIfInBounds_toArray, List.set_cons_succ, List.set_cons_zero])
     refine wpAnyH_take (i := 9) (oi := _) (v := ?_) rfl (by kernel_rfl) (by kernel_rfl) (by kernel_rfl) (fun _ _ _ h => h) (Or.inl ⟨?_, ?_⟩) hH0 ?_
     rotate_left
     ·kernel_rfl
     ·(intro W' _; go_simp; (try simp only [D1, D2, D3, D4, D5, D6, Bool.not_false, Bool.not_true]); (try with_reducible rfl))
     (try simp only [List.getElem_toArray, List.getElem_cons_succ, List.getElem_cons_zero, Act.put, List.setIfInBounds_toArray, List.set_cons_succ, List.set_cons_zero])
     refine wpAnyH_take (i := 10) (oi := _) (v := ?_) rfl (by kernel_rfl) (by kernel_rfl) (by kernel_rfl) (fun _ _ _ h => h) (Or.inl ⟨?_, ?_⟩) hH0 ?_
     rotate_left
     ·kernel_rfl
     ·(intro W' _; go_simp; (try simp only [D1, D2, D3, D4, D5, D6, Bool.not_false, Bool.not_true]); (try with_reducible rfl))
     (try simp only [List.getElem_toArray, List.getElem_cons_succ, List.getElem_cons_zero, Act.put, List.setIfInBounds_toArray, List.set_cons_succ, List.set_cons_zero])
     refine wpAnyH_take (i := 11) (oi := _) (v := ?_) rfl (by kernel_rfl) (by kernel_rfl) (by kernel_rfl) (fun _ _ _ h => h) (Or.inl ⟨?_, ?_⟩) hH0 ?_
     rotate_left
     ·kernel_rfl
     ·(intro W' _; go_simp; (try with_reducible rfl))
     (try simp only [List.getElem_toArray, List.getElem_cons_succ, List.getElem_cons_zero, Act.put, List.setIfInBounds_toArray, List.set_cons_succ, List.set_cons_zero])
     refine wpAnyH_take (i := 12) (oi := _) (v := ?_) rfl (by kernel_rfl) (by kernel_rfl) (by kernel_rfl) (fun _ _ _ h => h) (Or.inl ⟨?_, ?_⟩) hH0 ?_
     rotate_left
     ·kernel_rfl
     ·(intro W' _; go_simp; (try with_reducible rfl))
     (try simp only [List.getElem_toArray, List.getElem_cons_succ, List.getElem_cons_zero, Act.put, List.setIfInBounds_toArray, List.set_cons_succ, List.set_cons_zero])
     refine wpAnyH_take (i := 14) (oi := _) (v := ?_) rfl (by kernel_rfl) (by kernel_rfl) (by kernel_rfl) (fun _ _ _ h => h) (Or.inl ⟨?_, ?_⟩) hH0 ?_
     rotate_left
     ·kernel_rfl
     ·(intro W' _; go_simp; (try with_reducible rfl))
     (try simp only [List.getElem_toArray, List.getElem_cons_succ, List.getElem_cons_zero, Act.put, List.setIfInBounds_toArray, List.set_cons_succ, List.set_cons_zero])
     refine wpAnyH_take (i := 15) (oi := _) (v := ?_) rfl (by kernel_rfl) (by kernel_rfl) (by kernel_rfl) (fun _ _ _ h => h) (Or.inl ⟨?_, ?_⟩) hH0 ?_
     rotate_left
     ·kernel_rfl
     ·(intro W' hSw; have f0 := keepc hSw y0; have f1 := keepc hSw y1; have f2 := keepc hSw y2; go_simp; (try with_reducible rfl))
     (try simp only [List.getElem_toArray, List.getElem_cons_succ, List.getElem_cons_zero, Act.put, List.setIfInBounds_toArray, List.set_cons_succ, List.set_cons_zero])
     refine wpAnyH_ready (rs := [13]) (by kernel_rfl) (by simp) ?_
     refine AllReadyH.cons (o := _) rfl (fun K hK => ?_) AllReadyH.nil
     go_simp
     refine (ITv.out _ (H2.out.b.trans (hH0.mono H2.out.b.size))).mono ?_
     rintro r w3 ⟨rfl, hb3⟩
     refine hK.out _ _ (btr hH0 hb3) (fun hH1 => ?_)
     clear hK K
     (try simp only [List.getElem_toArray, List.getElem_cons_succ, List.getElem_cons_zero, Act.put, List.setIfInBounds_toArray, List.set_cons_succ, List.set_cons_zero])
     refine wpAnyH_take (i := 16) (oi := _) (v := ?_) rfl (by kernel_rfl) (by kernel_rfl) (by kernel_rfl) (fun _ _ _ h => h) (Or.inl ⟨?_, ?_⟩) hH1 ?_
     rotate_left
     ·kernel_rfl
     ·(intro W' _; go_simp; (try simp only [D1, D2, D3, D4, D5, D6, Bool.not_false, Bool.not_true]); (try with_reducible rfl))
     (try simp only [List.getElem_toArray, List.getElem_cons_succ, List.getElem_cons_zero, Act.put, List.setIfInBounds_toArray, List.set_cons_succ, List.set_cons_zero])
     refine wpAnyH_take (i := 17) (oi := _) (v := ?_) rfl (by kernel_rfl) (by kernel_rfl) (by kernel_rfl) (fun _ _ _ h => h) (Or.inl ⟨?_, ?_⟩) hH1 ?_
     rotate_left
     ·kernel_rfl
     ·(intro W' _; go_simp; (try simp only [D1, D2, D3, D4, D5, D6, Bool.not_false, Bool.not_true]); (try with_reducible rfl))
     (try simp only [List.getElem_toArray, List.getElem_cons_succ, List.getElem_cons_zero, Act.put, List.setIfInBounds_toArray, List.set_cons_succ, List.set_cons_zero])
     refine wpAnyH_done (by kernel_rfl) ?_ _
     have HR := Lib.hid hH1
     clear hH0 hH1
     go_wp2_with fail
     refine (FA.out _ (H2.out.keep HR.out)).mono ?_
     rintro r w3 ⟨rfl, k3⟩
     unfold Wr
     exact ⟨rfl, rfl, (K2.out.trans (Kp.of_below HR.out)).trans k3⟩
  ·have hBf : B = false := by
    rw [← hB]
    cases hq : nOk T.2.2 with
    | false => rfl
    | true => exact absurd (atoi_num hq).1 (hv _)
   subst hBf
   simp only [Bool.false_eq_true, if_false]
   clear hB hv
   go_wp2_with fail
   refine wp_region_held_drew (S := (fun W => Below w2.heap.size w2 W)) (by kernel_rfl) (bdr (bref _)) (fun hH0 => ?_)
   refine wpAnyH_take (i := 0) (oi := _) (v := ?_) rfl (by kernel_rfl) (by kernel_rfl) (by kernel_rfl) (fun _ _ _ h => h) (Or.inl ⟨?_, ?_⟩) hH0 ?_
   rotate_left
   ·kernel_rfl
   ·(intro W' _; go_simp; (try with_reducible rfl))
   (try simp only [List.getElem_toArray, List.getElem_cons_succ, List.getElem_cons_zero, Act.put, List.setIfInBounds_toArray, List.set_cons_succ, List.set_cons_zero])
   refine wpAnyH_take (i := 1) (oi := _) (v := ?_) rfl (by kernel_rfl) (by kernel_rfl) (by kernel_rfl) (fun _ _ _ h => h) (Or.inl ⟨?_, ?_⟩) hH0 ?_
   rotate_left
   ·kernel_rfl
   ·(intro W' hSw; have f0 := keepc hSw y0; have f1 := keepc hSw y1; have f2 := keepc hSw y2; go_simp; (try with_reducible rfl))
   (try simp only [List.getElem_toArray, List.getElem_cons_succ, List.getElem_cons_zero, Act.put, List.setIfInBounds_toArray, List.set_cons_succ, List.set_cons_zero])
   refine wpAnyH_take (i := 2) (oi := _) (v := ?_) rfl (by kernel_rfl) (by kernel_rfl) (by kernel_rfl) (fun _ _ _ h => h) (Or.inl ⟨?_, ?_⟩) hH0 ?_
   rotate_left
   ·kernel_rfl
   ·(intro W' _; go_simp; (try simp only [D1, D2, D3, D4, Bool.not_false, Bool.not_true]); (try with_reducible rfl))
   (try simp only [List.getElem_toArray, List.getElem_cons_succ, List.getElem_cons_zero, Act.put, List.setIfInBounds_toArray, List.set_cons_succ, List.set_cons_zero])
   refine wpAnyH_take (i := 3) (oi := _) (v := ?_) rfl (by kernel_rfl) (by kernel_rfl) (by kernel_rfl) (fun _ _ _ h => h) (Or.inl ⟨?_, ?_⟩) hH0 ?_
   rotate_left
   ·kernel_rfl
   ·(intro W' _; go_simp; (try with_reducible rfl))
   (try simp only [List.getElem_toArray, List.getElem_cons_succ, List.getElem_cons_zero, Act.put, List.setIfInBounds_toArray, List.set_cons_succ, List.set_cons_zero])
   refine wpAnyH_take (i := 4) (oi := _) (v := ?_) rfl (by kernel_rfl) (by kernel_rfl) (by kernel_rfl) (fun _ _ _ h => h) (Or.inl ⟨?_, ?_⟩) hH0 ?_
   rotate_left
   ·kernel_rfl
   ·(intro W' _; go_simp; (try with_reducible rfl))
   (try simp only [List.getElem_toArray, List.getElem_cons_succ, List.getElem_cons_zero, Act.put, List.setIfInBounds_toArray, List.set_cons_succ, List.set_cons_zero])
   refine wpAnyH_take (i := 5) (oi := _) (v := ?_) rfl (by kernel_rfl) (by kernel_rfl) (by kernel_rfl) (fun _ _ _ h => h) (Or.inl ⟨?_, ?_⟩) hH0 ?_
   rotate_left
   ·kernel_rfl
   ·(intro W' _; go_simp; (try simp only [D1, D2, D3, D4, Bool.not_false, Bool.not_true]); (try with_reducible rfl))
   (try simp only [List.getElem_toArray, List.getElem_cons_succ, List.getElem_cons_zero, Act.put, List.setIfInBounds_toArray, List.set_cons_succ, List.set_cons_zero])
   refine wpAnyH_take (i := 6) (oi := _) (v := ?_) rfl (by kernel_rfl) (by kernel_rfl) (by kernel_rfl) (fun _ _ _ h => h) (Or.inl ⟨?_, ?_⟩) hH0 ?_
   rotate_left
   ·kernel_rfl
   ·(intro W' _; go_simp; (try simp only [D1, D2, D3, D4, Bool.not_false, Bool.not_true]); (try with_reducible rfl))
   (try simp only [List.getElem_toArray, List.getElem_cons_succ, List.getElem_cons_zero, Act.put, List.setIfInBounds_toArray, List.set_cons_succ, List.set_cons_zero])
   refine wpAnyH_take (i := 7) (oi := _) (v := ?_) rfl (by kernel_rfl) (by kernel_rfl) (by kernel_rfl) (fun _ _ _ h => h) (Or.inl ⟨?_, ?_⟩) hH0 ?_
   rotate_left
   ·kernel_rfl
   ·(intro W' _; go_simp; (try with_reducible rfl))
   (try simp only [List.getElem_toArray, List.getElem_cons_succ, List.getElem_cons_zero, Act.put, List.setIfInBounds_toArray, List.set_cons_succ, List.set_cons_zero])
   refine wpAnyH_take (i := 8) (oi := _) (v := undef) rfl (by kernel_rfl) (by kernel_rfl) (by kernel_rfl) (fun _ _ _ h => h) (Or.inr ⟨?_, rfl⟩) hH0 ?_
   ·kernel_rfl
   refine wpAnyH_take (i := 9) (oi := _) (v := undef) rfl (by kernel_rfl) (by kernel_rfl) (by kernel_rfl) (fun _ _ _ h => h) (Or.inr ⟨?_, rfl⟩) hH0 ?_
   ·kernel_rfl
   (try simp only [List.getElem_toArray, List.getElem_cons_succ, List.getElem_cons_zero, Act.put, List.setIfInBounds_toArray, List.set_cons_succ, List.set_cons_zero])
   refine wpAnyH_take (i := 10) (oi := _) (v := ?_) rfl (by kernel_rfl) (by kernel_rfl) (by kernel_rfl) (fun _ _ _ h => h) (Or.inl ⟨?_, ?_⟩) hH0 ?_
   rotate_left
   ·kernel_rfl
   ·(intro W' _; go_simp; (try simp only [D1, D2, D3, D4, Bool.not_false, Bool.not_true]); (try with_reducible rfl))
   (try simp only [List.getElem_toArray, List.getElem_cons_succ, List.getElem_cons_zero, Act.put, List.setIfInBounds_toArray, List.set_cons_succ, List.set_cons_zero])
   refine wpAnyH_take (i := 11) (oi := _) (v := ?_) rfl (by kernel_rfl) (by kernel_rfl) (by kernel_rfl) (fun _ _ _ h => h) (Or.inl ⟨?_, ?_⟩) hH0 ?_
   rotate_left
   ·kernel_rfl
   ·(intro W' _; go_simp; (try with_reducible rfl))
   (try simp only [List.getElem_toArray, List.getElem_cons_succ, List.getElem_cons_zero, Act.put, List.setIfInBounds_toArray, List.set_cons_succ, List.set_cons_zero])
   refine wpAnyH_take (i := 12) (oi := _) (v := undef) rfl (by kernel_rfl) (by kernel_rfl) (by kernel_rfl) (fun _ _ _ h => h) (Or.inr ⟨?_, rfl⟩) hH0 ?_
   ·kernel_rfl
   refine wpAnyH_take (i := 13) (oi := _) (v := undef) rfl (by kernel_rfl) (by kernel_rfl) (by kernel_rfl) (fun _ _ _ h => h) (Or.inr ⟨?_, rfl⟩) hH0 ?_
   ·kernel_rfl
   refine wpAnyH_take (i := 14) (oi := _) (v := undef) rfl (by kernel_rfl) (by kernel_rfl) (by kernel_rfl) (fun _ _ _ h => h) (Or.inr ⟨?_, rfl⟩) hH0 ?_
   ·kernel_rfl
   refine wpAnyH_take (i := 15) (oi := _) (v := undef) rfl (by kernel_rfl) (by kernel_rfl) (by kernel_rfl) (fun _ _ _ h => h) (Or.inr ⟨?_, rfl⟩) hH0 ?_
   ·kernel_rfl
   refine wpAnyH_take (i := 16) (oi := _) (v := undef) rfl (by kernel_rfl) (by kernel_rfl) (by kernel_rfl) (fun _ _ _ h => h) (Or.inr ⟨?_, rfl⟩) hH0 ?_
   ·kernel_rfl
   (try simp only [List.getElem_toArray, List.getElem_cons_succ, List.getElem_cons_zero, Act.put, List.setIfInBounds_toArray, List.set_cons_succ, List.set_cons_zero])
   refine wpAnyH_take (i := 17) (oi := _) (v := ?_) rfl (by kernel_rfl) (by kernel_rfl) (by kernel_rfl) (fun _ _ _ h => h) (Or.inl ⟨?_, ?_⟩) hH0 ?_
   rotate_left
   ·kernel_rfl
   ·(intro W' _; go_simp; (try simp only [D1, D2, D3, D4, Bool.not_false, Bool.not_true]); (try with_reducible rfl))
   (try simp only [List.getElem_toArray, List.getElem_cons_succ, List.getElem_cons_zero, Act.put, List.setIfInBounds_toArray, List.set_cons_succ, List.set_cons_zero])
   refine wpAnyH_done (by kernel_rfl) ?_ _
   have HR := Lib.hid hH0
   clear hH0
   go_wp2_with fail
   refine (FA.out _ (H2.out.keep HR.out)).mono ?_
   rintro r w3 ⟨rfl, k3⟩
   unfold Wr
   exact ⟨rfl, rfl, (K2.out.trans (Kp.of_below HR.out)).trans k3⟩
 ·have h1' : (T.1 == 2) = false := by rw [beq_eq_false_iff_ne]; exact h1
  rw [decide_eq_false h1, Bool.false_and] at hB
  subst hB
  simp only [Bool.false_eq_true, if_false]
  go_wp2_with fail
  have D1 : (T.1 != 2) = true := by rw [bne, h1']; rfl
  have D2 : decide (T.1 = 2) = false := decide_eq_false h1
  have D3 := h1'
  have D4 : decide (¬ T.1 = 2) = true := decide_eq_true h1
  refine wp_region_held_drew (S := (fun W => Below w2.heap.size w2 W)) (by kernel_rfl) (bdr (bref _)) (fun hH0 => ?_)
  refine wpAnyH_take (i := 0) (oi := _) (v := ?_) rfl (by kernel_rfl) (by kernel_rfl) (by kernel_rfl) (fun _ _ _ h => h) (Or.inl ⟨?_, ?_⟩) hH0 ?_
  rotate_left
  ·kernel_rfl
  ·(intro W' _; go_simp; (try with_reducible rfl))
  (try simp only [List.getElem_toArray, List.getElem_cons_succ, List.getElem_cons_zero, Act.put, List.setIfInBounds_toArray, List.set_cons_succ, List.set_cons_zero])
  refine wpAnyH_take (i := 1) (oi := _) (v := ?_) rfl (by kernel_rfl) (by kernel_rfl) (by kernel_rfl) (fun _ _ _ h => h) (Or.inl ⟨?_, ?_⟩) hH0 ?_
  rotate_left
  ·kernel_rfl
  ·(intro W' hSw; have f0 := keepc hSw y0; have f1 := keepc hSw y1; have f2 := keepc hSw y2; go_simp; (try with_reducible rfl))
  (try simp only [List.getElem_toArray, List.getElem_cons_succ, List.getElem_cons_zero, Act.put, List.setIfInBounds_toArray, List.set_cons_succ, List.set_cons_zero])
  refine wpAnyH_take (i := 2) (oi := _) (v := ?_) rfl (by kernel_rfl) (by kernel_rfl) (by kernel_rfl) (fun _ _ _ h => h) (Or.inl ⟨?_, ?_⟩) hH0 ?_
  rotate_left
  ·kernel_rfl
  ·(intro W' _; go_simp; (try simp only [D1, D2, D3, D4, Bool.not_false, Bool.not_true]); (try with_reducible rfl))
  (try simp only [List.getElem_toArray, List.getElem_cons_succ, List.getElem_cons_zero, Act.put, List.setIfInBounds_toArray, List.set_cons_succ, List.set_cons_zero])
  refine wpAnyH_take (i := 3) (oi := _) (v := ?_) rfl (by kernel_rfl) (by kernel_rfl) (by kernel_rfl) (fun _ _ _ h => h) (Or.inl ⟨?_, ?_⟩) hH0 ?_
  rotate_left
  ·kernel_rfl
  ·(intro W' _; go_simp; (try with_reducible rfl))
  (try simp only [List.getElem_toArray, List.getElem_cons_succ, List.getElem_cons_zero, Act.put, List.setIfInBounds_toArray, List.set_cons_succ, List.set_cons_zero])
  refine wpAnyH_take (i := 4) (oi := _) (v := undef) rfl (by kernel_rfl) (by kernel_rfl) (by kernel_rfl) (fun _ _ _ h => h) (Or.inr ⟨?_, rfl⟩) hH0 ?_
  ·kernel_rfl
  refine wpAnyH_take (i := 5) (oi := _) (v := undef) rfl (by kernel_rfl) (by kernel_rfl) (by kernel_rfl) (fun _ _ _ h => h) (Or.inr ⟨?_, rfl⟩) hH0 ?_
  ·kernel_rfl
  (try simp only [List.getElem_toArray, List.getElem_cons_succ, List.getElem_cons_zero, Act.put, List.setIfInBounds_toArray, List.set_cons_succ, List.set_cons_zero])
  refine wpAnyH_take (i := 6) (oi := _) (v := ?_) rfl (by kernel_rfl) (by kernel_rfl) (by kernel_rfl) (fun _ _ _ h => h) (Or.inl ⟨?_, ?_⟩) hH0 ?_
  rotate_left
  ·kernel_rfl
  ·(intro W' _; go_simp; (try simp only [D1, D2, D3, D4, Bool.not_false, Bool.not_true]); (try with_reducible rfl))
  (try simp only [List.getElem_toArray, List.getElem_cons_succ, List.getElem_cons_zero, Act.put, List.setIfInBounds_toArray, List.set_cons_succ, List.set_cons_zero])
  refine wpAnyH_take (i := 7) (oi := _) (v := ?_) rfl (by kernel_rfl) (by kernel_rfl) (by kernel_rfl) (fun _ _ _ h => h) (Or.inl ⟨?_, ?_⟩) hH0 ?_
  rotate_left
  ·kernel_rfl
  ·(intro W' _; go_simp; (try with_reducible rfl))
  (try simp only [List.getElem_toArray, List.getElem_cons_succ, List.getElem_cons_zero, Act.put, List.setIfInBounds_toArray, List.set_cons_succ, List.set_cons_zero])
  refine wpAnyH_take (i := 8) (oi := _) (v := undef) rfl (by kernel_rfl) (by kernel_rfl) (by kernel_rfl) (fun _ _ _ h => h) (Or.inr ⟨?_, rfl⟩) hH0 ?_
  ·kernel_rfl
  refine wpAnyH_take (i := 9) (oi := _) (v := undef) rfl (by kernel_rfl) (by kernel_rfl) (by kernel_rfl) (fun _ _ _ h => h) (Or.inr ⟨?_, rfl⟩) hH0 ?_
  ·kernel_rfl
  (try simp only [List.getElem_toArray, List.getElem_cons_succ, List.getElem_cons_zero, Act.put, List.setIfInBounds_toArray, List.set_cons_succ, List.set_cons_zero])
  refine wpAnyH_take (i := 10) (oi := _) (v := ?_) rfl (by kernel_rfl) (by kernel_rfl) (by kernel_rfl) (fun _ _ _ h => h) (Or.inl ⟨?_, ?_⟩) hH0 ?_
  rotate_left
  ·kernel_rfl
  ·(intro W' _; go_simp; (try simp only [D1, D2, D3, D4, Bool.not_false, Bool.not_true]); (try with_reducible rfl))
  (try simp only [List.getElem_toArray, List.getElem_cons_succ, List.getElem_cons_zero, Act.put, List.setIfInBounds_toArray, List.set_cons_succ, List.set_cons_zero])
  refine wpAnyH_take (i := 11) (oi := _) (v := ?_) rfl (by kernel_rfl) (by kernel_rfl) (by kernel_rfl) (fun _ _ _ h => h) (Or.inl ⟨?_, ?_⟩) hH0 ?_
  rotate_left
  ·kernel_rfl
  ·(intro W' _; go_simp; (try with_reducible rfl))
  (try simp only [List.getElem_toArray, List.getElem_cons_succ, List.getElem_cons_zero, Act.put, List.setIfInBounds_toArray, List.set_cons_succ, List.set_cons_zero])
  refine wpAnyH_take (i := 12) (oi := _) (v := undef) rfl (by kernel_rfl) (by kernel_rfl) (by kernel_rfl) (fun _ _ _ h => h) (Or.inr ⟨?_, rfl⟩) hH0 ?_
  ·kernel_rfl
  refine wpAnyH_take (i := 13) (oi := _) (v := undef) rfl (by kernel_rfl) (by kernel_rfl) (by kernel_rfl) (fun _ _ _ h => h) (Or.inr ⟨?_, rfl⟩) hH0 ?_
  ·kernel_rfl
  refine wpAnyH_take (i := 14) (oi := _) (v := undef) rfl (by kernel_rfl) (by kernel_rfl) (by kernel_rfl) (fun _ _ _ h => h) (Or.inr ⟨?_, rfl⟩) hH0 ?_
  ·kernel_rfl
  refine wpAnyH_take (i := 15) (oi := _) (v := undef) rfl (by kernel_rfl) (by kernel_rfl) (by kernel_rfl) (fun _ _ _ h => h) (Or.inr ⟨?_, rfl⟩) hH0 ?_
  ·kernel_rfl
  refine wpAnyH_take (i := 16) (oi := _) (v := undef) rfl (by kernel_rfl) (by kernel_rfl) (by kernel_rfl) (fun _ _ _ h => h) (Or.inr ⟨?_, rfl⟩) hH0 ?_
  ·kernel_rfl
  (try simp only [List.getElem_toArray, List.getElem_cons_succ, List.getElem_cons_zero, Act.put, List.setIfInBounds_toArray, List.set_cons_succ, List.set_cons_zero])
  refine wpAnyH_take (i := 17) (oi := _) (v := ?_) rfl (by kernel_rfl) (by kernel_rfl) (by kernel_rfl) (fun _ _ _ h => h) (Or.inl ⟨?_, ?_⟩) hH0 ?_
  rotate_left
  ·kernel_rfl
  ·(intro W' _; go_simp; (try simp only [D1, D2, D3, D4, Bool.not_false, Bool.not_true]); (try with_reducible rfl))
  (try simp only [List.getElem_toArray, List.getElem_cons_succ, List.getElem_cons_zero, Act.put, List.setIfInBounds_toArray, List.set_cons_succ, List.set_cons_zero])
  refine wpAnyH_done (by kernel_rfl) ?_ _
  have HR := Lib.hid hH0
  clear hH0
  go_wp2_with fail
  refine (FA.out _ (H2.out.keep HR.out)).mono ?_
  rintro r w3 ⟨rfl, k3⟩
  unfold Wr
  exact ⟨rfl, rfl, (K2.out.trans (Kp.of_below HR.out)).trans k3⟩
end Go.Proofs.YtplkphihmfhciaaGreatDoor
