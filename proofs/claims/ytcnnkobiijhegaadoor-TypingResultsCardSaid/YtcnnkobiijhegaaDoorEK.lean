/-
  The iterator over all nodes of an expression: its walk.
-/
import Derived.Test.YtcnnkobiijhegaaDoorEJ
import Derived.Maps.AppendAt
namespace Go.Proofs.YtcnnkobiijhegaaDoor
open Go Go.RowKit Go.Lib Go.Shelf WM TM EM

/-- 'append' onto a list of the call's own: whose block holds what comes back. -/
theorem append_any {P : Program} {w : World} (base : Nat) (t ty e : TypeId) (i : TypeInfo) (z : Value) (size bytes : Nat) (ht : P.underlying t = some (.slice e)) (hi : P.info? e = some i) (hz : i.zero = some z)
    (hsize : i.size = size) (hby : i.bytes = bytes) (hzs : z.cells.size = size) (hsz : 0 < size)
    (v : Value) (n : Nat) (xs : List Value) (hown : w.ownsRow base e size v n xs)
    (ao : Option Addr) (m c : Nat) (news : List Value) (hl : news.length = m * size) (hnone : ao = none → m = 0 ∧ c = 0) (hnews : ∀ ad, ao = some ad → ∀ j u, news[j]? = some u → w.cell? (ad.add j) = some u) (h1 : ∀ u ∈ news, u.oneCell' = true)
    (h63 : n + m ≤ maxLen) (hbytes : (n + m) * bytes ≤ 140737488355328) (hbase : base ≤ w.heap.size) :
    ∃ v' w', (Builtin.append_ #[t, t] ty #[v, .slice ao m c]).run P w = .ok v' w' ∧ w'.ownsRow base e size v' (n + m) (xs ++ news) ∧ w.grownBy w' v.ownBlock ∧ (v'.ownBlock = v.ownBlock ∨ v'.ownBlock = some w.heap.size) := by
  cases ao with
  | some ad =>
    obtain ⟨v', w', hr, h2, h3, _, h5⟩ := run_append_own_at (P := P) w base t ty e i z size bytes ht hi hz hsize hby hzs hsz v n xs hown ad m c news hl (hnews ad rfl) h1 h63 hbytes hbase
    exact ⟨v', w', hr, h2, h3, h5⟩
  | none =>
    obtain ⟨rfl, rfl⟩ := hnone rfl
    have hn : news = [] := List.eq_nil_of_length_eq_zero (by simpa using hl)
    subst hn
    refine ⟨v, w, run_append_owned_none (P := P) (w := w) base t ty e i size ht hi v n xs hown, by simpa using hown, World.grownBy.refl _ _, Or.inl rfl⟩
theorem perm_step (pre : List Ex) (ini : List Ex) (x : Ex) (a E : List Ex) (h : (pre ++ pres (ini ++ [x])).Perm E) (hx : EM.pre x = x :: pres a) : ((pre ++ [x]) ++ pres (ini ++ a)).Perm E := by
  refine List.Perm.trans ?_ h
  rw [pres_app, pres_app]
  simp only [pres, List.append_nil, hx, List.append_assoc]
  refine List.Perm.append_left _ ?_
  have : (x :: (pres ini ++ pres a)).Perm (pres ini ++ x :: pres a) := (List.perm_middle (l₁ := pres ini) (l₂ := pres a) (a := x)).symm
  simpa using this
theorem turn_of {r : Nat} {W W' : World} {row : Option Nat} (h : W.grownBy W' row) (hr : ∀ k, row = some k → k = r) : Turn r W W' :=
  ⟨h.os, h.tape, h.output, h.size, fun k hk hne => h.block k hk (fun e => hne (hr k e.symm))⟩
theorem Turn.trans {r : Nat} {A B C : World} (h : Turn r A B) (k : Turn r B C) : Turn r A C :=
  ⟨k.1.trans h.1, k.2.1.trans h.2.1, k.2.2.1.trans h.2.2.1, Nat.le_trans h.2.2.2.1 k.2.2.2.1, fun b hb hne => (k.2.2.2.2 b (Nat.lt_of_lt_of_le hb h.2.2.2.1) hne).trans (h.2.2.2.2 b hb hne)⟩
theorem turn_below {r : Nat} {A B : World} (h : Below A.heap.size A B) : Turn r A B := ⟨h.os, h.tape, h.output, h.size, fun k hk _ => h.block k hk⟩
theorem own_lt {w : World} {base : Nat} {e : TypeId} {size n : Nat} {v : Value} {xs : List Value} (h : w.ownsRow base e size v n xs) : (v = .slice none 0 0 ∧ n = 0) ∨ ∃ g cap, v = .slice (some ⟨g, 0, none⟩) n cap ∧ base ≤ g ∧ g < w.heap.size := by
  rcases h.2 with ⟨h1, h2⟩ | ⟨g, cap, cur, hv, hb, hg, _⟩
  · exact Or.inl ⟨h1, h2⟩
  · exact Or.inr ⟨g, cap, hv, hb, (Array.getElem?_eq_some_iff.1 hg).1⟩
theorem own_same {w w' : World} {base : Nat} {e : TypeId} {size g n cap : Nat} {xs : List Value} (h : w.ownsRow base e size (.slice (some ⟨g, 0, none⟩) n cap) n xs) (hb : w'.heap[g]? = w.heap[g]?) : w'.ownsRow base e size (.slice (some ⟨g, 0, none⟩) n cap) n xs := by
  refine ⟨h.1, ?_⟩
  rcases h.2 with ⟨h1, _⟩ | ⟨g', cap', cur, hv, hbg, hg, rest⟩
  · cases h1
  · cases hv
    exact Or.inr ⟨g, cap, cur, rfl, hbg, hb.trans hg, rest⟩

attribute [local go_sem] Oper.semAt_some
set_option maxRecDepth 100000 in
set_option maxHeartbeats 4000000 in
theorem mall1 (e : Ex) (so : Option Addr) (cap : Nat) (hsz : siz e ≤ 100000) (w0 w : World) (hb0 : Below w0.heap.size w0 w) (bx : Nat)
    (hcell : ∀ j u, (xcs (e, so, cap))[j]? = some u → w.cell? ⟨bx, j, none⟩ = some u) (hL : Lies (e, so, cap) w0) :
    Seq Tryd.prog 36 #[.pointer (some ⟨bx, 0, none⟩)] (fun x : Nd => #[xv x]) Lies w0.heap.size (siz e) (fun xs => (xs.map (·.1)).Perm (EM.pre e)) (fun xs => ∃ ys, (xs.map (·.1) ++ ys).Perm (EM.pre e)) w := by
  intro l J Jx W hW hJ hY h0
  obtain ⟨i0, hi, hz0, hz1, hz2⟩ := info_parts infoEx
  have c0 := keepc hW (hcell 0 _ rfl)
  have c1 := keepc hW (hcell 1 _ rfl)
  have c2 := keepc hW (hcell 2 _ rfl)
  have c3 := keepc hW (hcell 3 _ rfl)
  have hbW : Below w0.heap.size w0 W := hb0.trans (hW.mono hb0.size)
  have HBW := Lib.hid hbW
  have HLe := Lib.hid hL
  have HJ := Lib.hid hJ
  have HY := Lib.hid hY
  have H0 := Lib.hid h0
  have HSZ := Lib.hid hsz
  clear hcell hW hb0 hbW hL hJ hY h0 hsz
  refine callsIn_wide.2 ?_
  go_enter Tryd.func36, Tryd.ntmps36
  go_wp2_with fail
  clear c0 c1 c2 c3
  go_loopg [3] (siz e) (fun gk v wr => ∃ (pre stk : List Nd) (g : Nat), wr.ownsRow W.heap.size 33 4 v stk.length (xrow stk) ∧ (v.ownBlock = none ∨ v.ownBlock = some g) ∧ W.heap.size ≤ g ∧ g < wr.heap.size ∧ (∀ x ∈ stk, Lies x w0) ∧
      (pre.map (·.1) ++ pres (stk.map (·.1))).Perm (EM.pre e) ∧ gk = sizs (stk.map (·.1)) ∧ J pre g wr ∧ Below w0.heap.size w0 wr)
  case atStart =>
    obtain ⟨W1, hW1⟩ : ∃ W1, (W.alloc (.cells #[.int .i64 e.op, .int .i64 e.n, .string (str e.s), .slice so e.args.length cap] 33)) = W1 := ⟨_, rfl⟩
    have hb1 : Below W.heap.size W W1 := by rw [← hW1]; exact bal (bref _) _
    have hs1 : W1.heap.size = W.heap.size + 1 := by rw [← hW1]; simp
    refine ⟨[], [(e, so, cap)], W.heap.size, ?_, Or.inr rfl, Nat.le_refl _, ?_, ?_, ?_, ?_, ?_, ?_⟩
    · exact World.ownsRow_lit W #[.int .i64 e.op, .int .i64 e.n, .string (str e.s), .slice so e.args.length cap] 1 (Nat.le_refl _) (by unfold maxLen; omega) rfl
    · rw [hW1]; omega
    · intro x hx; simp only [List.mem_singleton] at hx; subst hx; exact HLe.out
    · simp [pres]
    · simp [sizs_cons, sizs_nil]
    · rw [hW1]; exact H0.out _ _ (Nat.le_refl _) (by omega) hb1
    · rw [hW1]; exact HBW.out.trans (hb1.mono HBW.out.size)
  case round =>
    obtain ⟨pre, stk, g, hO, hvg, hg0, hg1, hLs, hP, rfl, hJs, hB⟩ := hrel
    rcases List.eq_nil_or_concat stk with rfl | ⟨ini, x, hst⟩
    · have hP' : (pre.map (·.1)).Perm (EM.pre e) := by simpa [pres] using hP
      have HP := Lib.hid hP'
      have HJs := Lib.hid hJs
      rcases own_lt hO with ⟨rfl, _⟩ | ⟨g', cap', rfl, _, _⟩
      · clear hP hP' hJs hO
        go_wp2_with fail
        go_end0
        exact ⟨⟨_, rfl⟩, Or.inl ⟨pre, HP.out, g, HJs.out⟩⟩
      · clear hP hP' hJs hO
        go_wp2_with fail
        go_end0
        exact ⟨⟨_, rfl⟩, Or.inl ⟨pre, HP.out, g, HJs.out⟩⟩
    · rw [List.concat_eq_append] at hst
      subst hst
      have hlen : (ini ++ [x]).length = ini.length + 1 := by simp
      have hLx : Lies x w0 := hLs x (by simp)
      have hcx : ∀ j u, (xcs x)[j]? = some u → ∀ g2 cap2, u3 = .slice (some ⟨g2, 0, none⟩) (ini ++ [x]).length cap2 → wr.cell? ⟨g2, ini.length * 4 + j, none⟩ = some u := by
        intro j u hu g' cap' hv
        rw [hv] at hO
        refine own_cell hO _ u ?_
        rw [xrow_app, List.getElem?_append_right (by rw [xrow_length]; omega), xrow_length, show ini.length * 4 + j - ini.length * 4 = j by omega]
        show (xcs x ++ [])[j]? = some u
        rw [List.append_nil]; exact hu
      rcases own_lt hO with ⟨_, h0⟩ | ⟨g', cap', hv, _, _⟩
      · omega
      have hgg : g' = g := by
        rcases hvg with h | h
        · rw [hv] at h; cases h
        · rw [hv] at h; injection h
      subst hgg
      subst hv
      have c0 := hcx 0 _ rfl _ _ rfl
      have c1 := hcx 1 _ rfl _ _ rfl
      have c2 := hcx 2 _ rfl _ _ rfl
      have c3 := hcx 3 _ rfl _ _ rfl
      have HO := Lib.hid hO
      have HLs := Lib.hid hLs
      have HP := Lib.hid hP
      have HJs := Lib.hid hJs
      have HB := Lib.hid hB
      have HLx := Lib.hid hLx
      have hle : ini.length + 1 ≤ 100000 := by
        have h1 := hP.length_eq
        have h2 := sizs_len ((ini ++ [x]).map (·.1))
        have h3 := HSZ.out
        rw [List.length_map, hlen] at h2
        rw [List.length_append, List.length_map] at h1
        unfold siz at h3
        unfold sizs at h2
        omega
      obtain ⟨k, hk⟩ : ∃ k, ini.length = k := ⟨_, rfl⟩
      rw [hlen, hk]
      rw [hk] at c0 c1 c2 c3 hle
      rw [Nat.add_zero] at c0
      have HK := Lib.hid hk
      have hcap : k + 1 ≤ cap' := by
        rcases hO.2 with ⟨h, _⟩ | ⟨_, _, _, hh, _, _, h3, _⟩
        · cases h
        · cases hh; rw [hlen, hk] at h3; exact h3
      obtain ⟨xe, xo, xc⟩ := x
      obtain ⟨m, hm⟩ : ∃ m, xe.args.length = m := ⟨_, rfl⟩
      obtain ⟨XS, hXS⟩ : ∃ X, str xe.s = X := ⟨_, rfl⟩
      simp only [hm, hXS] at c0 c1 c2 c3
      have HM := Lib.hid hm
      have HXS := Lib.hid hXS
      clear hcx hO hLs hP hJs hB hLx hk hlen hvg hm hXS
      go_wp2_with fail
      obtain ⟨W2, hW2⟩ : ∃ W2, wr.alloc (.cells #[.int .i64 xe.op, .int .i64 xe.n, .string XS, .slice xo m xc] 33) = W2 := ⟨_, rfl⟩
      have hb2 : Below wr.heap.size wr W2 := by rw [← hW2]; exact bal (bref _) _
      have hs2 : W2.heap.size = wr.heap.size + 1 := by rw [← hW2]; simp
      have d0 : W2.cell? ⟨wr.heap.size, 0, none⟩ = some (.int .i64 xe.op) := by rw [← hW2]; simp [go_sem]
      have d1 : W2.cell? ⟨wr.heap.size, 1, none⟩ = some (.int .i64 xe.n) := by rw [← hW2]; simp [go_sem]
      have d2 : W2.cell? ⟨wr.heap.size, 2, none⟩ = some (.string XS) := by rw [← hW2]; simp [go_sem]
      have d3 : W2.cell? ⟨wr.heap.size, 3, none⟩ = some (.slice xo m xc) := by rw [← hW2]; simp [go_sem]
      have hkc : k ≤ cap' := by omega
      rw [hW2]
      clear hW2 c0 c1 c2 c3
      have hKk := HK.out
      have B2 : Below wr.heap.size wr W2.drew := bdr hb2
      have B2d : Below w0.heap.size w0 W2.drew := HB.out.trans (B2.mono HB.out.size)
      have hsd : W2.drew.heap.size = wr.heap.size + 1 := hs2
      have hwW : w0.heap.size ≤ W.heap.size := HBW.out.size
      obtain ⟨ks, kk1, kk2, kk3⟩ := kids xe.args HLx.out.1
      have hkl : ks.length = m := by rw [← HM.out, ← kk1, List.length_map]
      have hnone : xo = none → m = 0 ∧ xc = 0 := by
        intro hn
        refine ⟨?_, HLx.out.2 hn⟩
        rcases Nat.eq_zero_or_pos m with h | h
        · exact h
        · obtain ⟨b, off, _, _, e1, _⟩ := HLx.out.1.at 0 (by rw [HM.out]; exact h)
          simp only at e1
          rw [hn] at e1
          cases e1
      have hO2 : W2.drew.ownsRow W.heap.size 33 4 (.slice (some ⟨g', 0, none⟩) k cap') k (xrow ini) := by
        have h1 := own_same (w' := W2.drew) HO.out (B2.block g' hg1)
        have h2 := take_own h1 (k := k) (by simp; omega)
        rw [xrow_app, List.take_left' (by rw [xrow_length, hKk])] at h2
        exact h2
      have hpl : pre.length < siz e := by
        have h1 := HP.out.length_eq
        have h2 := sizs_len ((ini ++ [(xe, xo, xc)]).map (·.1))
        rw [List.length_map] at h2
        rw [List.length_append, List.length_map] at h1
        unfold siz
        unfold sizs at h2
        simp only [List.length_append, List.length_singleton] at h2
        omega
      have hml : m ≤ 100000 := by
        have h1 := HP.out.length_eq
        have h2 := sizs_len ((xe.args))
        have h3 := HSZ.out
        have h4 : siz xe ≤ sizs ((ini ++ [(xe, xo, xc)]).map (·.1)) := siz_mem (by simp)
        rw [siz_eq] at h4
        rw [HM.out] at h2
        rw [List.length_append, List.length_map] at h1
        unfold siz at h3
        unfold sizs at h2 h4
        omega
      obtain ⟨v1, w3, hr, hO3, hg3, hblk⟩ := append_any (P := Tryd.prog) (w := W2.drew) W.heap.size 31 31 33 i0 _ 4 56 Tryd.underlying31 hi hz0 hz1 hz2 rfl (by decide) (.slice (some ⟨g', 0, none⟩) k cap') k (xrow ini) hO2 xo m xc (xrow ks) (by rw [xrow_length, hkl]) hnone
        (fun ad had j u hu => keepc B2d (kk3 ad had j u hu)) (xrow_one ks) (by unfold maxLen; omega) (by omega) (by omega)
      have hT : Turn g' wr w3 := Turn.trans (turn_below B2) (turn_of hg3 (fun q e => by cases e; rfl))
      obtain ⟨g3, hv3, hg3a, hg3b⟩ : ∃ g3, (v1.ownBlock = some g3) ∧ (g3 = g' ∨ wr.heap.size ≤ g3) ∧ g3 < w3.heap.size := by
        rcases own_lt hO3 with ⟨e1, _⟩ | ⟨q, cq, e1, _, hq⟩
        · rw [e1] at hblk
          rcases hblk with h | h <;> cases h
        · refine ⟨q, by rw [e1]; rfl, ?_, hq⟩
          rw [e1] at hblk
          rcases hblk with h | h
          · injection h with h; exact Or.inl h
          · injection h with h
            exact Or.inr (by have h' : q = W2.drew.heap.size := h; omega)
      have hJ3 := HJ.out pre g' wr w3 g3 HJs.out hT hg3a hg3b
      have B3 : Below w0.heap.size w0 w3 := B2d.grown hg3 (by omega) (fun q e => by cases e; exact Nat.le_trans hwW hg0)
      have hbk : w3.heap[wr.heap.size]? = W2.drew.heap[wr.heap.size]? := hg3.block _ (by omega) (fun e => by injection e with e; exact absurd (show wr.heap.size = g' from e) (by omega))
      have f0 : w3.cell? ⟨wr.heap.size, 0, none⟩ = some (.int .i64 xe.op) := (World.cell?_of_block (a := ⟨wr.heap.size, 0, none⟩) hbk).trans d0
      have f1 : w3.cell? ⟨wr.heap.size, 1, none⟩ = some (.int .i64 xe.n) := (World.cell?_of_block (a := ⟨wr.heap.size, 1, none⟩) hbk).trans d1
      have f2 : w3.cell? ⟨wr.heap.size, 2, none⟩ = some (.string XS) := (World.cell?_of_block (a := ⟨wr.heap.size, 2, none⟩) hbk).trans d2
      have f3 : w3.cell? ⟨wr.heap.size, 3, none⟩ = some (.slice xo m xc) := (World.cell?_of_block (a := ⟨wr.heap.size, 3, none⟩) hbk).trans d3
      have hY3 := HY.out pre g3 (xe, xo, xc) w3 hJ3 (by have := HLx.out; exact ⟨this.1.keep B3, this.2⟩) hg3b (by omega) hpl
      simp only [xv, HM.out, HXS.out] at hY3
      have HO3 := Lib.hid hO3
      have HB3 := Lib.hid B3
      have HY3 := Lib.hid hY3
      have HV3 := Lib.hid hv3
      have HKS := Lib.hid kk2
      have HKM := Lib.hid kk1
      have HGA := Lib.hid hg3a
      have HGB := Lib.hid hg3b
      have HG3 := Lib.hid hg3
      have HKL := Lib.hid hkl
      clear hpl hKk B2d hwW kk1 kk2 kk3 hkl hnone hO2 hml hT hJ3 B3 hbk hY3 hO3 hblk hv3 hg3a hg3b B2
      refine wp_region_held_drew (S := (fun W => W.cell? ⟨wr.heap.size, 3, none⟩ = some (.slice xo m xc))) (by kernel_rfl) d3 (fun hH0 => ?_)
      refine wpAnyH_take (i := 0) (oi := _) (v := ?_) rfl (by kernel_rfl) (by kernel_rfl) (by kernel_rfl) (fun _ _ _ h => h) (Or.inl ⟨?_, ?_⟩) hH0 ?_
      rotate_left
      · kernel_rfl
      · (intro W' hSw; have f9 := hSw; go_simp; (try rw [if_pos hkc]); (try with_reducible rfl))
      (try simp only [List.getElem_toArray])
      (try simp only [List.getElem_cons_succ])
      (try simp only [List.getElem_cons_zero])
      (try simp only [Act.put])
      (try simp only [List.setIfInBounds_toArray])
      (try simp only [List.set_cons_succ])
      (try simp only [List.set_cons_zero])
      refine wpAnyH_take (i := 1) (oi := _) (v := ?_) rfl (by kernel_rfl) (by kernel_rfl) (by kernel_rfl) (fun _ _ _ h => h) (Or.inl ⟨?_, ?_⟩) hH0 ?_
      rotate_left
      · kernel_rfl
      · (intro W' hSw; have f9 := hSw; go_simp; (try rw [if_pos hkc]); (try with_reducible rfl))
      (try simp only [List.getElem_toArray])
      (try simp only [List.getElem_cons_succ])
      (try simp only [List.getElem_cons_zero])
      (try simp only [Act.put])
      (try simp only [List.setIfInBounds_toArray])
      (try simp only [List.set_cons_succ])
      (try simp only [List.set_cons_zero])
      refine wpAnyH_take (i := 2) (oi := _) (v := ?_) rfl (by kernel_rfl) (by kernel_rfl) (by kernel_rfl) (fun _ _ _ h => h) (Or.inl ⟨?_, ?_⟩) hH0 ?_
      rotate_left
      · kernel_rfl
      · (intro W' hSw; have f9 := hSw; go_simp; (try rw [if_pos hkc]); (try with_reducible rfl))
      (try simp only [List.getElem_toArray])
      (try simp only [List.getElem_cons_succ])
      (try simp only [List.getElem_cons_zero])
      (try simp only [Act.put])
      (try simp only [List.setIfInBounds_toArray])
      (try simp only [List.set_cons_succ])
      (try simp only [List.set_cons_zero])
      refine wpAnyH_take (i := 3) (oi := _) (v := ?_) rfl (by kernel_rfl) (by kernel_rfl) (by kernel_rfl) (fun _ _ _ h => h) (Or.inl ⟨?_, ?_⟩) hH0 ?_
      rotate_left
      · kernel_rfl
      · (intro W' hSw; have f9 := hSw; go_simp; (try rw [if_pos hkc]); (try with_reducible rfl))
      (try simp only [List.getElem_toArray])
      (try simp only [List.getElem_cons_succ])
      (try simp only [List.getElem_cons_zero])
      (try simp only [Act.put])
      (try simp only [List.setIfInBounds_toArray])
      (try simp only [List.set_cons_succ])
      (try simp only [List.set_cons_zero])
      refine wpAnyH_take (i := 4) (oi := _) (v := ?_) rfl (by kernel_rfl) (by kernel_rfl) (by kernel_rfl) (fun _ _ _ h => h) (Or.inl ⟨?_, ?_⟩) hH0 ?_
      rotate_left
      · kernel_rfl
      · (intro W' hSw; have f9 := hSw; go_simp; (try rw [if_pos hkc]); (try with_reducible rfl))
      (try simp only [List.getElem_toArray])
      (try simp only [List.getElem_cons_succ])
      (try simp only [List.getElem_cons_zero])
      (try simp only [Act.put])
      (try simp only [List.setIfInBounds_toArray])
      (try simp only [List.set_cons_succ])
      (try simp only [List.set_cons_zero])
      refine wpAnyH_ready (rs := [5]) (by kernel_rfl) (by simp) ?_
      refine AllReadyH.cons (o := _) rfl (fun K hK => ?_) AllReadyH.nil
      rw [if_pos (by kernel_rfl)]
      unfold Oper.wp execOp
      simp only [List.getElem_toArray, List.getElem_cons_succ, List.getElem_cons_zero, resolve, invoke, builtin, Sem.run_bind, Sem.run_pure, Result.andThen_ok, List.map_toArray, List.map_cons, List.map_nil, Act.eval]
      erw [hr]
      refine hK.out _ _ f3 (fun hH1 => ?_)
      clear hK K
      (try skip)
      (try skip)
      (try skip)
      (try simp only [Act.put])
      (try simp only [List.setIfInBounds_toArray])
      (try simp only [List.set_cons_succ])
      (try simp only [List.set_cons_zero])
      refine wpAnyH_take (i := 6) (oi := _) (v := ?_) rfl (by kernel_rfl) (by kernel_rfl) (by kernel_rfl) (fun _ _ _ h => h) (Or.inl ⟨?_, ?_⟩) hH1 ?_
      rotate_left
      · kernel_rfl
      · (intro W' hSw; have f9 := hSw; go_simp; (try with_reducible rfl))
      (try simp only [List.getElem_toArray])
      (try simp only [List.getElem_cons_succ])
      (try simp only [List.getElem_cons_zero])
      (try simp only [Act.put])
      (try simp only [List.setIfInBounds_toArray])
      (try simp only [List.set_cons_succ])
      (try simp only [List.set_cons_zero])
      refine wpAnyH_done (by kernel_rfl) ?_ _
      rename_i Kz hKz
      refine hKz _ _ ?_
      refine (wpIn_wide (n := 0)).1 ?_
      obtain ⟨fn, tmps, assign, body, hy, hR⟩ := HY3.out
      gi_wp2
      refine ⟨rfl, hR.mono ?_⟩
      rintro r w4 (⟨rfl, hJ4, hk4⟩ | ⟨rfl, hJx4⟩)
      · have HJ4 := Lib.hid hJ4
        have HK4 := Lib.hid hk4
        clear hJ4 hk4 hy hR
        gi_wp2
        go_roundg (sizs ((ini ++ ks).map (·.1)))
        case rel =>
          have hmk : (ini ++ ks).length = k + m := by rw [List.length_append, HK.out, HKL.out]
          refine ⟨pre ++ [(xe, xo, xc)], ini ++ ks, g3, ?_, Or.inr HV3.out, ?_, ?_, ?_, ?_, rfl, HJ4.out, HB3.out.trans HK4.out.1⟩
          · rw [hmk, xrow_app]
            have hO3 := HO3.out
            rcases own_lt hO3 with ⟨e1, _⟩ | ⟨q, cq, e1, _, hq⟩
            · have := HV3.out; rw [e1] at this; cases this
            · have hv3 := HV3.out
              rw [e1] at hv3 hO3 ⊢
              injection hv3 with hv3
              have hv3' : q = g3 := hv3
              exact own_same hO3 (by rw [hv3']; exact HK4.out.2)
          · rcases HGA.out with h | h
            · omega
            · omega
          · have h1 := HK4.out.2
            have h2 := HGB.out
            rw [Array.getElem?_eq_getElem h2] at h1
            exact (Array.getElem?_eq_some_iff.1 h1).1
          · intro y hy
            rcases List.mem_append.1 hy with hy | hy
            · exact HLs.out y (by simp [hy])
            · exact HKS.out y hy
          · have hp := HP.out
            rw [List.map_append, List.map_append, HKM.out]
            rw [List.map_append] at hp
            exact perm_step _ _ _ _ _ hp (by cases xe; rfl)
        case measure =>
          rw [List.map_append, List.map_append, sizs_app, sizs_app, HKM.out]
          simp only [List.map_cons, List.map_nil, sizs_cons, sizs_nil]
          rw [siz_eq xe]
          omega
      · have HJx := Lib.hid hJx4
        clear hJx4 hy hR
        gi_wp2
        refine bodyPost_ret (results_none rfl _ _ _) rfl ?_
        have hp := HP.out
        rw [List.map_append] at hp
        have := perm_step _ _ _ xe.args _ hp (by cases xe; rfl)
        refine ⟨⟨_, rfl⟩, Or.inr ⟨pre ++ [(xe, xo, xc)], ⟨pres (ini.map (·.1) ++ xe.args), ?_⟩, HJx.out⟩⟩
        rw [List.map_append]
        exact this
end Go.Proofs.YtcnnkobiijhegaaDoor
