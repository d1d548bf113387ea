/-
  The law's 'filled': operands.
-/
import Derived.Test.YtcnnkobiijhegaaDoorZQ
namespace Go.Proofs.YtcnnkobiijhegaaDoor
open Go Go.RowKit Go.Lib Go.Shelf WM TM EM YM

theorem mask_to {A : Nat → Bool} {w : World} {p : Addr} {v : Value} (h : (mask A w).cell? p = some v) : A p.block = true ∧ w.cell? p = some v := by
  rw [mask_cell] at h
  by_cases hA : A p.block = true
  · rw [if_pos hA] at h; exact ⟨hA, h⟩
  · rw [if_neg hA] at h; cases h
theorem news4 (w : World) (x : Nd) (t : TypeId) : ∀ j u, (xcs x)[j]? = some u → (w.alloc (.cells #[.int .i64 x.1.op, .int .i64 x.1.n, .string (str x.1.s), .slice x.2.1 x.1.args.length x.2.2] t)).cell? ((⟨w.heap.size, 0, none⟩ : Addr).add j) = some u := by
  intro j u hj
  match j, hj with
  | 0, hj => simp [xcs] at hj; subst hj; simp [Addr.add]
  | 1, hj => simp [xcs] at hj; subst hj; simp [Addr.add]
  | 2, hj => simp [xcs] at hj; subst hj; simp [Addr.add]
  | 3, hj => simp [xcs] at hj; subst hj; simp [Addr.add]
  | n + 4, hj => simp [xcs] at hj
theorem own_slice {w : World} {base : Nat} {e : TypeId} {size n : Nat} {v : Value} {xs : List Value} (h : w.ownsRow base e size v n xs) : ∃ ao cp, v = .slice ao n cp := by
  rcases own_lt h with ⟨e1, e2⟩ | ⟨g, cp, e1, _⟩
  · exact ⟨none, 0, by rw [e1, e2]⟩
  · exact ⟨_, cp, e1⟩
theorem xcs_one (x : Nd) : ∀ u ∈ xcs x, u.oneCell' = true := by
  intro u hu
  simp [xcs] at hu
  rcases hu with e | e | e | e <;> (subst e; rfl)
/-- The same at a world in which nothing was written. -/
theorem Fil.at {w : World} {A : Nat → Bool} {o en : Int} {X : ByteArray} {so : Option Addr} {n cap : Nat} {ks : List Nd} {v : Value} {W W' : World} (h : Fil w A o en X so n cap ks v W) (hb : Below W.heap.size W W') : Fil w A o en X so n cap ks v W' := by
  have hsz := h.size
  have hs := hb.size
  refine { box := keepc hb h.box, res := h.res.keep hb, out := h.out.of (hb.block _ (by omega)), own := own_below h.own hb, lie := fun x hx => (h.lie x hx).go fun p u hp hu => ⟨keepc hb hu, hp⟩, size := by omega, below := btr h.below hb }
set_option maxRecDepth 100000 in
set_option maxHeartbeats 8000000 in
/-- An operator. -/
theorem mfillOp (vs : List Vr) (vo : Option Addr) (vc : Nat) (nn : Int) (e : Ex) (he : e.op ≠ 4) (hsz : siz e ≤ 100000)
    (IH : ∀ x ∈ e.args, ∀ (so : Option Addr) (cap : Nat) (A : Nat → Bool) (w : World), (∀ k, A k = true → k < w.heap.size) → VarsAt vo vs w → Lies (x, so, cap) (mask A w) →
      Calls Tryd.prog 14 #[.agg #[.int .i64 x.op, .int .i64 x.n, .string (str x.s), .slice so x.args.length cap], .slice vo vs.length vc, .int .i64 nn] w fun r w' => ∃ so2 cap2, r = .returned (.agg #[.int .i64 (fill vs nn x).op, .int .i64 (fill vs nn x).n, .string (str (fill vs nn x).s), .slice so2 (fill vs nn x).args.length cap2]) ∧ Lies (fill vs nn x, so2, cap2) (mask (fun k => A k || decide (w.heap.size ≤ k)) w') ∧ Below w.heap.size w w')
    (so : Option Addr) (cap : Nat) (A : Nat → Bool) (w : World) (hA : ∀ k, A k = true → k < w.heap.size) (hv : VarsAt vo vs w) (hL : Lies (e, so, cap) (mask A w)) :
    Calls Tryd.prog 14 #[.agg #[.int .i64 e.op, .int .i64 e.n, .string (str e.s), .slice so e.args.length cap], .slice vo vs.length vc, .int .i64 nn] w fun r w' => ∃ so2 cap2, r = .returned (.agg #[.int .i64 (fill vs nn e).op, .int .i64 (fill vs nn e).n, .string (str (fill vs nn e).s), .slice so2 (fill vs nn e).args.length cap2]) ∧ Lies (fill vs nn e, so2, cap2) (mask (fun k => A k || decide (w.heap.size ≤ k)) w') ∧ Below w.heap.size w w' := by
  obtain ⟨i0, hi, hz0, hz1, hz2⟩ := info_parts infoEx
  have hn5 : e.args.length ≤ 100000 := by have h1 := siz_eq e; have h2 := sizs_len e.args; omega
  have HV := Lib.hid hv
  have HA := Lib.hid hA
  have HF := Lib.hid (fill_opr vs nn he)
  obtain ⟨yy, hyy⟩ : ∃ y, fill vs nn e = y := ⟨_, rfl⟩
  rw [hyy] at HF
  rw [hyy]
  obtain ⟨o, ho⟩ : ∃ o, e.op = o := ⟨_, rfl⟩
  obtain ⟨en, hen⟩ : ∃ o, e.n = o := ⟨_, rfl⟩
  obtain ⟨s, hes⟩ : ∃ s, e.s = s := ⟨_, rfl⟩
  obtain ⟨l, hl⟩ : ∃ l, e.args = l := ⟨_, rfl⟩
  have HLm := Lib.hid (show ExprsAt so l (mask A w) from by rw [← hl]; exact hL.1)
  rw [ho, hen, hes, hl] at HF
  rw [hl] at IH hn5
  rw [ho] at he
  rw [ho, hen, hes, hl]
  obtain ⟨X, hX⟩ : ∃ X, str s = X := ⟨_, rfl⟩
  have HX := Lib.hid hX
  obtain ⟨n, hn⟩ : ∃ n, l.length = n := ⟨_, rfl⟩
  obtain ⟨vn, hvn⟩ : ∃ n, vs.length = n := ⟨_, rfl⟩
  have HN9 := Lib.hid hn
  have IH9 := Lib.hid IH
  rw [hvn] at IH9
  rw [hn] at hn5
  rw [hX, hn, hvn]
  have ho4 : (o != 4) = true := by rw [bne_iff_ne]; exact he
  have HF0 := Lib.hid (Fil.start w A o en X so n cap 33)
  clear IH hL hv hA hyy ho hen hes hl hX hn hvn hsz he
  go_enter Tryd.func14, Tryd.ntmps14
  go_wp2_with fail
  go_loopw [8] (fun i wr => ∃ (k : Nat) (ks : List Nd) (v : Value), k ≤ n ∧ i = .int .i64 k ∧ ks.length = k ∧ ks.map (·.1) = (l.take k).map (fill vs nn) ∧ Fil w A o en X so n cap ks v wr) (fun i _ => n - (RowKit.intOf i).toNat)
  case atStart => exact ⟨0, [], _, by omega, rfl, rfl, rfl, HF0.out⟩
  case round =>
    obtain ⟨k, ks, v, hk, rfl, hkl, hkm, hF⟩ := hrel
    have HKL := Lib.hid hkl
    have HKM := Lib.hid hkm
    have HFil := Lib.hid hF
    have hbx := hF.box
    have hq3 := hF.out.2.2.2.1
    have hks : ks.length ≤ 100000 := by omega
    have hB2s : w.heap.size + 2 < wr.heap.size := by have := hF.size; omega
    clear hkl hkm
    by_cases hlt : k < n
    · have hkz : (k : Int) < (n : Int) := by omega
      have g1 : k < l.length := by rw [HN9.out]; exact hlt
      obtain ⟨b, off, so2, cap2, rfl, _, m0, m1, m2, m3, hs, hsn⟩ := HLm.out.at k g1
      obtain ⟨hAb, n0⟩ := mask_to m0
      have n1 := (mask_to m1).2
      have n2 := (mask_to m2).2
      have n3 := (mask_to m3).2
      have hbw : b < w.heap.size := HA.out b hAb
      have c0 := below_cell hF.below (p := ⟨b, off + k * 4, none⟩) hbw n0
      have c1 := below_cell hF.below (p := ⟨b, off + k * 4 + 1, none⟩) hbw n1
      have c2 := below_cell hF.below (p := ⟨b, off + k * 4 + 2, none⟩) hbw n2
      have c3 := below_cell hF.below (p := ⟨b, off + k * 4 + 3, none⟩) hbw n3
      have hmem := getD_mem'' E0 l k g1
      have C0 := Lib.hid (fun W (hW : Below wr.heap.size wr W) => IH9.out (l.getD k E0) hmem so2 cap2 A W (fun j hj => by have h1 := HA.out j hj; have h2 := HFil.out.below.size; have h3 := hW.size; omega) (HV.out.keep (btr HFil.out.below hW)) (Lies.go (x := (l.getD k E0, so2, cap2)) ⟨hs, hsn⟩ fun p u hp hu => ⟨keepc hW (below_cell HFil.out.below (HA.out _ hp) hu), hp⟩))
      have HTK := Lib.hid (show (l.take (k + 1)).map (fill vs nn) = (l.take k).map (fill vs nn) ++ [fill vs nn (l.getD k E0)] from by rw [take_gx E0 l k g1, List.map_append]; rfl)
      obtain ⟨x, hx⟩ : ∃ x, l.getD k E0 = x := ⟨_, rfl⟩
      rw [hx] at c0 c1 c2 c3 C0 HTK
      obtain ⟨y, hy⟩ : ∃ y, fill vs nn x = y := ⟨_, rfl⟩
      rw [hy] at C0 HTK
      clear hs hsn hx hy hmem g1 m0 m1 m2 m3 n0 n1 n2 n3 hAb
      clear hF
      go_wp2_with fail
      refine wp_region_held_drew (S := (fun W => W.heap[w.heap.size]? = wr.heap[w.heap.size]? ∧ W.heap[b]? = wr.heap[b]?)) (by kernel_rfl) ⟨rfl, rfl⟩ (fun hH0 => ?_)
      refine wpAnyH_take (i := 0) (oi := _) (v := ?_) rfl (by kernel_rfl) (by kernel_rfl) (by kernel_rfl) (fun _ _ _ h => h) (Or.inl ⟨?_, ?_⟩) hH0 ?_
      rotate_left
      · kernel_rfl
      · (intro W' _; go_simp; (try with_reducible rfl))
      (try simp only [List.getElem_toArray, List.getElem_cons_zero, Act.put, List.setIfInBounds_toArray, List.set_cons_succ, List.set_cons_zero])
      refine wpAnyH_take (i := 2) (oi := _) (v := ?_) rfl (by kernel_rfl) (by kernel_rfl) (by kernel_rfl) (fun _ _ _ h => h) (Or.inl ⟨?_, ?_⟩) hH0 ?_
      rotate_left
      · kernel_rfl
      · (intro W' _; go_simp; (try with_reducible rfl))
      (try simp only [List.getElem_toArray, List.getElem_cons_succ, List.getElem_cons_zero, Act.put, List.setIfInBounds_toArray, List.set_cons_succ, List.set_cons_zero])
      refine wpAnyH_take (i := 3) (oi := _) (v := ?_) rfl (by kernel_rfl) (by kernel_rfl) (by kernel_rfl) (fun _ _ _ h => h) (Or.inl ⟨?_, ?_⟩) hH0 ?_
      rotate_left
      · kernel_rfl
      · (intro W' hSw; have f0 := (World.cell?_of_block (a := ⟨w.heap.size, 3, none⟩) hSw.1).trans hbx; have f1 := (World.cell?_of_block (a := ⟨b, off + k * 4, none⟩) hSw.2).trans c0; have f2 := (World.cell?_of_block (a := ⟨b, off + k * 4 + 1, none⟩) hSw.2).trans c1; have f3 := (World.cell?_of_block (a := ⟨b, off + k * 4 + 2, none⟩) hSw.2).trans c2; have f4 := (World.cell?_of_block (a := ⟨b, off + k * 4 + 3, none⟩) hSw.2).trans c3; go_simp; (try with_reducible rfl))
      (try simp only [List.getElem_toArray, List.getElem_cons_succ, List.getElem_cons_zero, Act.put, List.setIfInBounds_toArray, List.set_cons_succ, List.set_cons_zero])
      refine wpAnyH_take (i := 4) (oi := _) (v := ?_) rfl (by kernel_rfl) (by kernel_rfl) (by kernel_rfl) (fun _ _ _ h => h) (Or.inl ⟨?_, ?_⟩) hH0 ?_
      rotate_left
      · kernel_rfl
      · (intro W' _; go_simp; (try with_reducible rfl))
      (try simp only [List.getElem_toArray, List.getElem_cons_succ, List.getElem_cons_zero, Act.put, List.setIfInBounds_toArray, List.set_cons_succ, List.set_cons_zero])
      refine wpAnyH_take (i := 5) (oi := _) (v := ?_) rfl (by kernel_rfl) (by kernel_rfl) (by kernel_rfl) (fun _ _ _ h => h) (Or.inl ⟨?_, ?_⟩) hH0 ?_
      rotate_left
      · kernel_rfl
      · (intro W' _; go_simp; (try with_reducible rfl))
      (try simp only [List.getElem_toArray, List.getElem_cons_succ, List.getElem_cons_zero, Act.put, List.setIfInBounds_toArray, List.set_cons_succ, List.set_cons_zero])
      refine wpAnyH_take (i := 6) (oi := _) (v := ?_) rfl (by kernel_rfl) (by kernel_rfl) (by kernel_rfl) (fun _ _ _ h => h) (Or.inl ⟨?_, ?_⟩) hH0 ?_
      rotate_left
      · kernel_rfl
      · (intro W' hSw; have f0 := (World.cell?_of_block (a := ⟨w.heap.size, 3, none⟩) hSw.1).trans hbx; have f1 := (World.cell?_of_block (a := ⟨b, off + k * 4, none⟩) hSw.2).trans c0; have f2 := (World.cell?_of_block (a := ⟨b, off + k * 4 + 1, none⟩) hSw.2).trans c1; have f3 := (World.cell?_of_block (a := ⟨b, off + k * 4 + 2, none⟩) hSw.2).trans c2; have f4 := (World.cell?_of_block (a := ⟨b, off + k * 4 + 3, none⟩) hSw.2).trans c3; go_simp; (try with_reducible rfl))
      (try simp only [List.getElem_toArray, List.getElem_cons_succ, List.getElem_cons_zero, Act.put, List.setIfInBounds_toArray, List.set_cons_succ, List.set_cons_zero])
      refine wpAnyH_take (i := 7) (oi := _) (v := ?_) rfl (by kernel_rfl) (by kernel_rfl) (by kernel_rfl) (fun _ _ _ h => h) (Or.inl ⟨?_, ?_⟩) hH0 ?_
      rotate_left
      · kernel_rfl
      · (intro W' _; go_simp; (try with_reducible rfl))
      (try simp only [List.getElem_toArray, List.getElem_cons_succ, List.getElem_cons_zero, Act.put, List.setIfInBounds_toArray, List.set_cons_succ, List.set_cons_zero])
      refine wpAnyH_take (i := 8) (oi := _) (v := ?_) rfl (by kernel_rfl) (by kernel_rfl) (by kernel_rfl) (fun _ _ _ h => h) (Or.inl ⟨?_, ?_⟩) hH0 ?_
      rotate_left
      · kernel_rfl
      · (intro W' _; go_simp; (try with_reducible rfl))
      (try simp only [List.getElem_toArray, List.getElem_cons_succ, List.getElem_cons_zero, Act.put, List.setIfInBounds_toArray, List.set_cons_succ, List.set_cons_zero])
      refine wpAnyH_ready (rs := [1, 9]) (by kernel_rfl) (by simp) ?_
      refine AllReadyH.cons (o := _) rfl (fun K hK => ?_) (AllReadyH.cons (o := _) rfl (fun K hK => ?_) AllReadyH.nil)
      · go_simp
        refine hK.out _ _ hH0 (fun hL9 => ?_)
        clear hK K
        (try simp only [List.getElem_toArray, List.getElem_cons_succ, List.getElem_cons_zero, Act.put, List.setIfInBounds_toArray, List.set_cons_succ, List.set_cons_zero])
        refine wpAnyH_ready (rs := [9]) (by kernel_rfl) (by simp) ?_
        refine AllReadyH.cons (o := _) rfl (fun K hK => ?_) AllReadyH.nil
        go_simp
        refine (C0.out _ (bdr (bref _))).mono ?_
        rintro r w2 ⟨so3, cap3, rfl, hx2, hb2⟩
        have hq2 : w2.cell? ⟨w.heap.size + 2, 3, none⟩ = some v := (World.cell?_of_block (a := ⟨w.heap.size + 2, 3, none⟩) (hb2.block _ hB2s)).trans hq3
        have hOa := own_below (own_below HFil.out.own (bdr (bref wr))) (bal hb2 (.cells #[.int .i64 y.op, .int .i64 y.n, .string (str y.s), .slice so3 y.args.length cap3] 33))
        have hsa : (w2.alloc (.cells #[.int .i64 y.op, .int .i64 y.n, .string (str y.s), .slice so3 y.args.length cap3] 33)).heap.size = w2.heap.size + 1 := by simp
        have hs2 : wr.heap.size ≤ w2.heap.size := hb2.size
        obtain ⟨v5, w5, hr, hO5, hg5, hblk⟩ := append_any (P := Tryd.prog) (w := w2.alloc (.cells #[.int .i64 y.op, .int .i64 y.n, .string (str y.s), .slice so3 y.args.length cap3] 33)) (w.heap.size + 3) 31 31 33 i0 _ 4 56 Tryd.underlying31 hi hz0 hz1 hz2 rfl (by decide) v ks.length (xrow ks) hOa (some ⟨w2.heap.size, 0, none⟩) 1 1 (xcs (y, so3, cap3)) rfl (fun h => by cases h) (fun ad had j u hu => by cases had; exact news4 w2 (y, so3, cap3) 33 j u hu) (xcs_one (y, so3, cap3)) (by unfold maxLen; omega) (by omega) (by omega)
        have HN := Lib.hid ((HFil.out.at (bdr (bref wr))).next HA.out (y, so3, cap3) hb2 hx2 (.cells #[.int .i64 y.op, .int .i64 y.n, .string (str y.s), .slice so3 y.args.length cap3] 33) v5 hO5 hg5 hblk)
        have hne0 : v.ownBlock ≠ some w.heap.size := fun e => by have := (HFil.out.own.lt _ e).1; omega
        have hneb : v.ownBlock ≠ some b := fun e => by have := (HFil.out.own.lt _ e).1; omega
        have HS2 : Hid (w2.heap[w.heap.size]? = wr.heap[w.heap.size]? ∧ w2.heap[b]? = wr.heap[b]?) := Lib.hid ⟨hb2.block _ (show w.heap.size < wr.heap.size by omega), hb2.block _ (show b < wr.heap.size by omega)⟩
        have HSa : Hid ((w2.alloc (.cells #[.int .i64 y.op, .int .i64 y.n, .string (str y.s), .slice so3 y.args.length cap3] 33)).heap[w.heap.size]? = wr.heap[w.heap.size]? ∧ (w2.alloc (.cells #[.int .i64 y.op, .int .i64 y.n, .string (str y.s), .slice so3 y.args.length cap3] 33)).heap[b]? = wr.heap[b]?) := Lib.hid ⟨(Below.heap_alloc w2 _ _ (by omega)).trans HS2.out.1, (Below.heap_alloc w2 _ _ (by omega)).trans HS2.out.2⟩
        have HS5 : Hid (w5.heap[w.heap.size]? = wr.heap[w.heap.size]? ∧ w5.heap[b]? = wr.heap[b]?) := Lib.hid ⟨(hg5.block _ (by omega) (fun e => hne0 e.symm)).trans HSa.out.1, (hg5.block _ (by omega) (fun e => hneb e.symm)).trans HSa.out.2⟩
        have HS6 : Hid ((w5.setCell ⟨w.heap.size + 2, 3, none⟩ v5).heap[w.heap.size]? = wr.heap[w.heap.size]? ∧ (w5.setCell ⟨w.heap.size + 2, 3, none⟩ v5).heap[b]? = wr.heap[b]?) := Lib.hid ⟨(Below.heap_setCell w5 ⟨w.heap.size + 2, 3, none⟩ v5 _ (show w.heap.size ≠ w.heap.size + 2 by omega)).trans HS5.out.1, (Below.heap_setCell w5 ⟨w.heap.size + 2, 3, none⟩ v5 _ (show b ≠ w.heap.size + 2 by omega)).trans HS5.out.2⟩
        have HRUN := Lib.hid hr
        have HO9 := Lib.hid hO5
        have hq5 := HN.out.1.1
        have hf5 := HN.out.1.2
        have hqa : (w2.alloc (.cells #[.int .i64 y.op, .int .i64 y.n, .string (str y.s), .slice so3 y.args.length cap3] 33)).cell? ⟨w.heap.size + 2, 3, none⟩ = some v := keepc (bal (bref w2) _) hq2
        clear hOa hO5 hg5 hblk hx2 hb2 hr hne0 hneb hsa
        refine hK.out _ _ HS2.out (fun hH2 => ?_)
        clear hK K
        (try simp only [List.getElem_toArray, List.getElem_cons_succ, List.getElem_cons_zero, Act.put, List.setIfInBounds_toArray, List.set_cons_succ, List.set_cons_zero])
        refine wpAnyH_ready (rs := [10]) (by kernel_rfl) (by simp) ?_
        refine AllReadyH.cons (o := _) rfl (fun K hK => ?_) AllReadyH.nil
        go_simp
        refine hK.out _ _ HSa.out (fun hH3 => ?_)
        clear hK K
        (try simp only [List.getElem_toArray, List.getElem_cons_succ, List.getElem_cons_zero, Act.put, List.setIfInBounds_toArray, List.set_cons_succ, List.set_cons_zero])
        refine wpAnyH_ready (rs := [11]) (by kernel_rfl) (by simp) ?_
        refine AllReadyH.cons (o := _) rfl (fun K hK => ?_) AllReadyH.nil
        rw [if_pos (by kernel_rfl)]
        unfold Oper.wp execOp
        simp only [List.getElem_toArray, List.getElem_cons_succ, List.getElem_cons_zero, resolve, invoke, builtin, Sem.run_bind, Sem.run_pure, Result.andThen_ok, List.map_toArray, List.map_cons, List.map_nil, Act.eval, Array.getD_eq_getD_getElem?, List.getElem?_toArray, List.getElem?_cons_succ, List.getElem?_cons_zero, Option.getD_some]
        rw [HRUN.out]
        refine hK.out _ _ HS5.out (fun hH4 => ?_)
        clear hK K
        (try simp only [Act.put, List.setIfInBounds_toArray, List.set_cons_succ, List.set_cons_zero])
        refine wpAnyH_take (i := 12) (oi := _) (v := ?_) rfl (by kernel_rfl) (by kernel_rfl) (by kernel_rfl) (fun _ _ _ h => h) (Or.inl ⟨?_, ?_⟩) hH4 ?_
        rotate_left
        · kernel_rfl
        · (intro W' _; go_simp; (try with_reducible rfl))
        (try simp only [List.getElem_toArray, List.getElem_cons_succ, List.getElem_cons_zero, Act.put, List.setIfInBounds_toArray, List.set_cons_succ, List.set_cons_zero])
        obtain ⟨ao5, cp5, rfl⟩ : ∃ ao cp, v5 = .slice ao (ks.length + 1) cp := own_slice HO9.out
        refine wpAnyH_ready (rs := [13]) (by kernel_rfl) (by simp) ?_
        refine AllReadyH.cons (o := _) rfl (fun K hK => ?_) AllReadyH.nil
        go_simp
        refine hK.out _ _ HS6.out (fun hH5 => ?_)
        clear hK K
        (try simp only [List.getElem_toArray, List.getElem_cons_succ, List.getElem_cons_zero, Act.put, List.setIfInBounds_toArray, List.set_cons_succ, List.set_cons_zero])
        refine wpAnyH_done (by kernel_rfl) ?_ _
        go_wp2_with fail
        go_roundw
        case rel => exact ⟨k + 1, ks ++ [(y, so3, cap3)], _, by omega, by go_num, by rw [List.length_append, HKL.out]; rfl, by rw [List.map_append, HKM.out, HTK.out]; rfl, HN.out.2⟩
        case measure => simp [RowKit.intOf] <;> omega
      · go_simp
        refine (C0.out _ (bdr (bref _))).mono ?_
        rintro r w2 ⟨so3, cap3, rfl, hx2, hb2⟩
        have hq2 : w2.cell? ⟨w.heap.size + 2, 3, none⟩ = some v := (World.cell?_of_block (a := ⟨w.heap.size + 2, 3, none⟩) (hb2.block _ hB2s)).trans hq3
        have hOa := own_below (own_below HFil.out.own (bdr (bref wr))) (bal hb2 (.cells #[.int .i64 y.op, .int .i64 y.n, .string (str y.s), .slice so3 y.args.length cap3] 33))
        have hsa : (w2.alloc (.cells #[.int .i64 y.op, .int .i64 y.n, .string (str y.s), .slice so3 y.args.length cap3] 33)).heap.size = w2.heap.size + 1 := by simp
        have hs2 : wr.heap.size ≤ w2.heap.size := hb2.size
        obtain ⟨v5, w5, hr, hO5, hg5, hblk⟩ := append_any (P := Tryd.prog) (w := w2.alloc (.cells #[.int .i64 y.op, .int .i64 y.n, .string (str y.s), .slice so3 y.args.length cap3] 33)) (w.heap.size + 3) 31 31 33 i0 _ 4 56 Tryd.underlying31 hi hz0 hz1 hz2 rfl (by decide) v ks.length (xrow ks) hOa (some ⟨w2.heap.size, 0, none⟩) 1 1 (xcs (y, so3, cap3)) rfl (fun h => by cases h) (fun ad had j u hu => by cases had; exact news4 w2 (y, so3, cap3) 33 j u hu) (xcs_one (y, so3, cap3)) (by unfold maxLen; omega) (by omega) (by omega)
        have HN := Lib.hid ((HFil.out.at (bdr (bref wr))).next HA.out (y, so3, cap3) hb2 hx2 (.cells #[.int .i64 y.op, .int .i64 y.n, .string (str y.s), .slice so3 y.args.length cap3] 33) v5 hO5 hg5 hblk)
        have hne0 : v.ownBlock ≠ some w.heap.size := fun e => by have := (HFil.out.own.lt _ e).1; omega
        have hneb : v.ownBlock ≠ some b := fun e => by have := (HFil.out.own.lt _ e).1; omega
        have HS2 : Hid (w2.heap[w.heap.size]? = wr.heap[w.heap.size]? ∧ w2.heap[b]? = wr.heap[b]?) := Lib.hid ⟨hb2.block _ (show w.heap.size < wr.heap.size by omega), hb2.block _ (show b < wr.heap.size by omega)⟩
        have HSa : Hid ((w2.alloc (.cells #[.int .i64 y.op, .int .i64 y.n, .string (str y.s), .slice so3 y.args.length cap3] 33)).heap[w.heap.size]? = wr.heap[w.heap.size]? ∧ (w2.alloc (.cells #[.int .i64 y.op, .int .i64 y.n, .string (str y.s), .slice so3 y.args.length cap3] 33)).heap[b]? = wr.heap[b]?) := Lib.hid ⟨(Below.heap_alloc w2 _ _ (by omega)).trans HS2.out.1, (Below.heap_alloc w2 _ _ (by omega)).trans HS2.out.2⟩
        have HS5 : Hid (w5.heap[w.heap.size]? = wr.heap[w.heap.size]? ∧ w5.heap[b]? = wr.heap[b]?) := Lib.hid ⟨(hg5.block _ (by omega) (fun e => hne0 e.symm)).trans HSa.out.1, (hg5.block _ (by omega) (fun e => hneb e.symm)).trans HSa.out.2⟩
        have HS6 : Hid ((w5.setCell ⟨w.heap.size + 2, 3, none⟩ v5).heap[w.heap.size]? = wr.heap[w.heap.size]? ∧ (w5.setCell ⟨w.heap.size + 2, 3, none⟩ v5).heap[b]? = wr.heap[b]?) := Lib.hid ⟨(Below.heap_setCell w5 ⟨w.heap.size + 2, 3, none⟩ v5 _ (show w.heap.size ≠ w.heap.size + 2 by omega)).trans HS5.out.1, (Below.heap_setCell w5 ⟨w.heap.size + 2, 3, none⟩ v5 _ (show b ≠ w.heap.size + 2 by omega)).trans HS5.out.2⟩
        have HRUN := Lib.hid hr
        have HO9 := Lib.hid hO5
        have hq5 := HN.out.1.1
        have hf5 := HN.out.1.2
        have hqa : (w2.alloc (.cells #[.int .i64 y.op, .int .i64 y.n, .string (str y.s), .slice so3 y.args.length cap3] 33)).cell? ⟨w.heap.size + 2, 3, none⟩ = some v := keepc (bal (bref w2) _) hq2
        clear hOa hO5 hg5 hblk hx2 hb2 hr hne0 hneb hsa
        refine hK.out _ _ HS2.out (fun hH2 => ?_)
        clear hK K
        (try simp only [List.getElem_toArray, List.getElem_cons_succ, List.getElem_cons_zero, Act.put, List.setIfInBounds_toArray, List.set_cons_succ, List.set_cons_zero])
        refine wpAnyH_ready (rs := [1, 10]) (by kernel_rfl) (by simp) ?_
        refine AllReadyH.cons (o := _) rfl (fun K hK => ?_) (AllReadyH.cons (o := _) rfl (fun K hK => ?_) AllReadyH.nil)
        · go_simp
          refine hK.out _ _ HS2.out (fun hL9 => ?_)
          clear hK K
          (try simp only [List.getElem_toArray, List.getElem_cons_succ, List.getElem_cons_zero, Act.put, List.setIfInBounds_toArray, List.set_cons_succ, List.set_cons_zero])
          refine wpAnyH_ready (rs := [10]) (by kernel_rfl) (by simp) ?_
          refine AllReadyH.cons (o := _) rfl (fun K hK => ?_) AllReadyH.nil
          go_simp
          refine hK.out _ _ HSa.out (fun hH3 => ?_)
          clear hK K
          (try simp only [List.getElem_toArray, List.getElem_cons_succ, List.getElem_cons_zero, Act.put, List.setIfInBounds_toArray, List.set_cons_succ, List.set_cons_zero])
          refine wpAnyH_ready (rs := [11]) (by kernel_rfl) (by simp) ?_
          refine AllReadyH.cons (o := _) rfl (fun K hK => ?_) AllReadyH.nil
          rw [if_pos (by kernel_rfl)]
          unfold Oper.wp execOp
          simp only [List.getElem_toArray, List.getElem_cons_succ, List.getElem_cons_zero, resolve, invoke, builtin, Sem.run_bind, Sem.run_pure, Result.andThen_ok, List.map_toArray, List.map_cons, List.map_nil, Act.eval, Array.getD_eq_getD_getElem?, List.getElem?_toArray, List.getElem?_cons_succ, List.getElem?_cons_zero, Option.getD_some]
          rw [HRUN.out]
          refine hK.out _ _ HS5.out (fun hH4 => ?_)
          clear hK K
          (try simp only [Act.put, List.setIfInBounds_toArray, List.set_cons_succ, List.set_cons_zero])
          refine wpAnyH_take (i := 12) (oi := _) (v := ?_) rfl (by kernel_rfl) (by kernel_rfl) (by kernel_rfl) (fun _ _ _ h => h) (Or.inl ⟨?_, ?_⟩) hH4 ?_
          rotate_left
          · kernel_rfl
          · (intro W' _; go_simp; (try with_reducible rfl))
          (try simp only [List.getElem_toArray, List.getElem_cons_succ, List.getElem_cons_zero, Act.put, List.setIfInBounds_toArray, List.set_cons_succ, List.set_cons_zero])
          obtain ⟨ao5, cp5, rfl⟩ : ∃ ao cp, v5 = .slice ao (ks.length + 1) cp := own_slice HO9.out
          refine wpAnyH_ready (rs := [13]) (by kernel_rfl) (by simp) ?_
          refine AllReadyH.cons (o := _) rfl (fun K hK => ?_) AllReadyH.nil
          go_simp
          refine hK.out _ _ HS6.out (fun hH5 => ?_)
          clear hK K
          (try simp only [List.getElem_toArray, List.getElem_cons_succ, List.getElem_cons_zero, Act.put, List.setIfInBounds_toArray, List.set_cons_succ, List.set_cons_zero])
          refine wpAnyH_done (by kernel_rfl) ?_ _
          go_wp2_with fail
          go_roundw
          case rel => exact ⟨k + 1, ks ++ [(y, so3, cap3)], _, by omega, by go_num, by rw [List.length_append, HKL.out]; rfl, by rw [List.map_append, HKM.out, HTK.out]; rfl, HN.out.2⟩
          case measure => simp [RowKit.intOf] <;> omega
        · go_simp
          refine hK.out _ _ HSa.out (fun hH3 => ?_)
          clear hK K
          (try simp only [List.getElem_toArray, List.getElem_cons_succ, List.getElem_cons_zero, Act.put, List.setIfInBounds_toArray, List.set_cons_succ, List.set_cons_zero])
          refine wpAnyH_ready (rs := [1]) (by kernel_rfl) (by simp) ?_
          refine AllReadyH.cons (o := _) rfl (fun K hK => ?_) AllReadyH.nil
          go_simp
          refine hK.out _ _ HSa.out (fun hL9 => ?_)
          clear hK K
          (try simp only [List.getElem_toArray, List.getElem_cons_succ, List.getElem_cons_zero, Act.put, List.setIfInBounds_toArray, List.set_cons_succ, List.set_cons_zero])
          refine wpAnyH_ready (rs := [11]) (by kernel_rfl) (by simp) ?_
          refine AllReadyH.cons (o := _) rfl (fun K hK => ?_) AllReadyH.nil
          rw [if_pos (by kernel_rfl)]
          unfold Oper.wp execOp
          simp only [List.getElem_toArray, List.getElem_cons_succ, List.getElem_cons_zero, resolve, invoke, builtin, Sem.run_bind, Sem.run_pure, Result.andThen_ok, List.map_toArray, List.map_cons, List.map_nil, Act.eval, Array.getD_eq_getD_getElem?, List.getElem?_toArray, List.getElem?_cons_succ, List.getElem?_cons_zero, Option.getD_some]
          rw [HRUN.out]
          refine hK.out _ _ HS5.out (fun hH4 => ?_)
          clear hK K
          (try simp only [Act.put, List.setIfInBounds_toArray, List.set_cons_succ, List.set_cons_zero])
          refine wpAnyH_take (i := 12) (oi := _) (v := ?_) rfl (by kernel_rfl) (by kernel_rfl) (by kernel_rfl) (fun _ _ _ h => h) (Or.inl ⟨?_, ?_⟩) hH4 ?_
          rotate_left
          · kernel_rfl
          · (intro W' _; go_simp; (try with_reducible rfl))
          (try simp only [List.getElem_toArray, List.getElem_cons_succ, List.getElem_cons_zero, Act.put, List.setIfInBounds_toArray, List.set_cons_succ, List.set_cons_zero])
          obtain ⟨ao5, cp5, rfl⟩ : ∃ ao cp, v5 = .slice ao (ks.length + 1) cp := own_slice HO9.out
          refine wpAnyH_ready (rs := [13]) (by kernel_rfl) (by simp) ?_
          refine AllReadyH.cons (o := _) rfl (fun K hK => ?_) AllReadyH.nil
          go_simp
          refine hK.out _ _ HS6.out (fun hH5 => ?_)
          clear hK K
          (try simp only [List.getElem_toArray, List.getElem_cons_succ, List.getElem_cons_zero, Act.put, List.setIfInBounds_toArray, List.set_cons_succ, List.set_cons_zero])
          refine wpAnyH_done (by kernel_rfl) ?_ _
          go_wp2_with fail
          go_roundw
          case rel => exact ⟨k + 1, ks ++ [(y, so3, cap3)], _, by omega, by go_num, by rw [List.length_append, HKL.out]; rfl, by rw [List.map_append, HKM.out, HTK.out]; rfl, HN.out.2⟩
          case measure => simp [RowKit.intOf] <;> omega
    · have he9 : k = n := by omega
      subst he9
      obtain ⟨av, cv, rfl⟩ := own_slice hF.own
      obtain ⟨q0, q1, q2, q3, _⟩ := hF.out
      have HZ := Lib.hid hF.res
      obtain ⟨z0, z1, z2, z3, zf⟩ := hF.res
      have hdone := hF.done HA.out (.int .i64 o) (.int .i64 en) (.string X)
      have HD := Lib.hid (fun x3 => hF.done HA.out (.int .i64 o) (.int .i64 en) (.string X) x3)
      have HYE : Hid (yy = .mk o en s (ks.map (·.1))) := Lib.hid (by
        rw [HF.out, HKM.out]
        have : l.take l.length = l := List.take_length
        rw [HN9.out] at this
        rw [this])
      clear hdone hF
      go_wp2_with fail
      refine bodyPost_ret (res_ex rfl _ _ _ rfl _ _ _ _ (st4 HZ.out _ _ _ _)) rfl ?_
      have hbl := st4_below HFil.out.below (Nat.le_succ _) (.int .i64 o) (.int .i64 en) (.string X) (.slice av ks.length cv)
      obtain ⟨ao, cp, hv9, hn9, hE9⟩ := HD.out (.slice av ks.length cv)
      have hkl9 : (ks.map (·.1)).length = ks.length := List.length_map ..
      refine ⟨ao, cp, ?_, ?_, hbl⟩
      · rw [HYE.out]
        show Ending.returned (.agg #[.int .i64 o, .int .i64 en, .string X, .slice av ks.length cv]) = .returned (.agg #[.int .i64 o, .int .i64 en, .string (str s), .slice ao (ks.map (·.1)).length cp])
        rw [hkl9, HX.out, hv9]
      · rw [HYE.out]
        exact ⟨hE9, hn9⟩

/-- The law's 'filled'. -/
theorem mfill (vs : List Vr) (vo : Option Addr) (vc : Nat) (hvl : vs.length ≤ 100000) (nn : Int) : ∀ (e : Ex) (so : Option Addr) (cap : Nat) (A : Nat → Bool) (w : World), siz e ≤ 100000 → (∀ k, A k = true → k < w.heap.size) → VarsAt vo vs w → Lies (e, so, cap) (mask A w) →
    Calls Tryd.prog 14 #[.agg #[.int .i64 e.op, .int .i64 e.n, .string (str e.s), .slice so e.args.length cap], .slice vo vs.length vc, .int .i64 nn] w fun r w' => ∃ so2 cap2, r = .returned (.agg #[.int .i64 (fill vs nn e).op, .int .i64 (fill vs nn e).n, .string (str (fill vs nn e).s), .slice so2 (fill vs nn e).args.length cap2]) ∧ Lies (fill vs nn e, so2, cap2) (mask (fun k => A k || decide (w.heap.size ≤ k)) w') ∧ Below w.heap.size w w' := by
  refine ex_ind _ fun e ih so cap A w hm hA hv hL => ?_
  by_cases he : e.op = 4
  · exact mfillVar vs vo vc hvl nn e he so cap A w hA hv hL
  · exact mfillOp vs vo vc nn e he hm (fun x hx so cap A w hA hv hL => ih x hx so cap A w (by have := siz_args hx; omega) hA hv hL) so cap A w hA hv hL
end Go.Proofs.YtcnnkobiijhegaaDoor
