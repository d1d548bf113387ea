/-
  The walk of CodeStops.
-/
import Derived.Test.YthanoilbcdhbkaaGreatDoorQM
namespace Go.Proofs.YthanoilbcdhbkaaGreatDoor
open Go Go.RowKit Go.Lib Go.Shelf WM TM EM YM

theorem inews {w : World} {ao : Option Addr} {l : List Ins} (h : InsAt ao l w) : ∀ ad, ao = some ad → ∀ j u, (icells l)[j]? = some u → w.cell? (ad.add j) = some u := by
 intro ad had j u hu
 have hj : j < (icells l).length := (List.getElem?_eq_some_iff.1 hu).1
 rw [icells_length] at hj
 obtain ⟨i, r, hr, rfl⟩ : ∃ i r, r < 3 ∧ j = i * 3 + r := ⟨j / 3, j % 3, by omega, by omega⟩
 have hi : i < l.length := by omega
 obtain ⟨b, off, hao, _, c0, c1, c2⟩ := h i hi
 rw [had] at hao
 cases hao
 obtain ⟨t0, t1, t2⟩ := icells_at l i hi
 rw [Addr.add_lit]
 match r, hr with
 | 0, _ => rw [Nat.add_zero] at hu ⊢; rw [t0] at hu; cases hu; exact c0
 | 1, _ => rw [t1] at hu; cases hu; rw [← Nat.add_assoc]; exact c1
 | 2, _ => rw [t2] at hu; cases hu; rw [← Nat.add_assoc]; exact c2
theorem icells_put (l : List Ins) (y : Ins) : ∀ i, i < l.length → icells (l.set i y) = (((icells l).set (i * 3) (.int .i64 y.1)).set (i * 3 + 1) (.int .i64 y.2.1)).set (i * 3 + 2) (.int .i64 y.2.2) := by
 induction l with
 | nil => intro i hi; exact absurd hi (Nat.not_lt_zero _)
 | cons t r ih =>
  intro i hi
  cases i with
  | zero => rfl
  | succ i =>
   have := ih i (Nat.lt_of_succ_lt_succ hi)
   rw [List.set_cons_succ]
   show icell t ++ icells (r.set i y) = (((icell t ++ icells r).set _ _).set _ _).set _ _
   rw [this, List.set_append_right _ _ (by show 3 ≤ _; omega), List.set_append_right _ _ (by show 3 ≤ _; omega), List.set_append_right _ _ (by show 3 ≤ _; omega)]
   have e : ∀ q, (i + 1) * 3 + q - (icell t).length = i * 3 + q := fun q => by show (i + 1) * 3 + q - 3 = _; omega
   have e0 : (i + 1) * 3 - (icell t).length = i * 3 := e 0
   rw [e0, e 1, e 2]
theorem own_put {w : World} {base g c n m size : Nat} {e : TypeId} {xs : List Value} (h : w.ownsRow base e size (.slice (some ⟨g, 0, none⟩) n c) m xs) (j : Nat) (u : Value) : (w.setCell ⟨g, j, none⟩ u).ownsRow base e size (.slice (some ⟨g, 0, none⟩) n c) m (xs.set j u) := by
 refine ⟨by rw [List.length_set]; exact h.1, ?_⟩
 rcases h.2 with ⟨h1, _⟩ | ⟨g', cap, cur, hv, hb, hg, hnc, hm, hcs, htake⟩
 ·cases h1
 ·cases hv
  exact Or.inr ⟨g, c, cur.setIfInBounds j u, rfl, hb, Lib.heap_setCell_same hg _, hnc, hm, by simpa using hcs, by rw [← htake, Array.toList_setIfInBounds, List.take_set]⟩
theorem stop_own {base n : Nat} {v : Value} {l : List Ins} {w : World} (hn : l.length = n) (h0 : 0 < n) (h : w.ownsRow base 47 3 v (0 + n) ([] ++ icells l)) : ∃ g c, v = .slice (some ⟨g, 0, none⟩) n c ∧ base ≤ g := by
 rw [Nat.zero_add, List.nil_append] at h
 subst hn
 obtain ⟨g, c, hv, hb, _⟩ := OI.pos (l := l) h h0
 exact ⟨g, c, hv, hb⟩
theorem stop_cells {base n g c k : Nat} {l : List Ins} {w : World} (hn : l.length = n) (h : w.ownsRow base 47 3 (.slice (some ⟨g, 0, none⟩) n c) (0 + n) ([] ++ icells l)) (hk : k < n) :
  w.cell? ⟨g, k * 3, none⟩ = some (.int .i64 (l.getD k I0).1) ∧ w.cell? ⟨g, k * 3 + 1, none⟩ = some (.int .i64 (l.getD k I0).2.1) ∧ w.cell? ⟨g, k * 3 + 2, none⟩ = some (.int .i64 (l.getD k I0).2.2) ∧ w.frozen? ⟨g, k * 3, none⟩ = false ∧ w.frozen? ⟨g, k * 3 + 1, none⟩ = false ∧ w.frozen? ⟨g, k * 3 + 2, none⟩ = false := by
 rw [Nat.zero_add, List.nil_append] at h
 have fz : ∀ x : Nat, w.frozen? ⟨g, x, none⟩ = false := by
  intro x
  rcases h.2 with ⟨h1, _⟩ | ⟨g', cap, cur, hv, _, hg, _⟩
  ·cases h1
  ·cases hv
   unfold World.frozen?
   rw [hg]
   rfl
 obtain ⟨t0, t1, t2⟩ := icells_at l k (by omega)
 exact ⟨by rw [World.ownsRow.cellAt h _ (by omega)]; exact t0, by rw [World.ownsRow.cellAt h _ (by omega)]; exact t1, by rw [World.ownsRow.cellAt h _ (by omega)]; exact t2, fz _, fz _, fz _⟩
theorem stop_done {cd : Cd} {t : Int} {n vn g c k vc ic : Nat} {vo io : Option Addr} {w w1 : World} (hn : cd.c.length = n) (hb0 : Below w.heap.size w ((w.alloc (.cells #[.int .i64 t, .slice vo vn vc, .slice io n ic] 30)).alloc (.cells #[] 47))) (_ : Below w.heap.size w (w.alloc (.cells #[.int .i64 t, .slice vo vn vc, .slice io n ic] 30))) (gx : World.grownBy ((w.alloc (.cells #[.int .i64 t, .slice vo vn vc, .slice io n ic] 30)).alloc (.cells #[] 47)) w1 (some (w.heap.size + 1)))
  (h : w1.ownsRow (w.heap.size + 1) 47 3 (.slice (some ⟨g, 0, none⟩) n c) (0 + n) ([] ++ icells cd.c)) (hk : k < n) (tz : Int) :
  (w1.cell? ⟨w.heap.size, 0, none⟩ = some (.int .i64 t) ∧ w1.cell? ⟨w.heap.size, 1, none⟩ = some (.slice vo vn vc) ∧ w1.cell? ⟨w.heap.size, 2, none⟩ = some (.slice io n ic) ∧ w1.frozen? ⟨w.heap.size, 2, none⟩ = false) ∧
  (CodeAt cd vo vc io ic w → CodeAt ⟨cd.t, cd.vs, cd.c.set k (4, tz, 0)⟩ vo vc (some ⟨g, 0, none⟩) c ((((w1.setCell ⟨g, k * 3, none⟩ (.int .i64 4)).setCell ⟨g, k * 3 + 1, none⟩ (.int .i64 tz)).setCell ⟨g, k * 3 + 2, none⟩ (.int .i64 0)).setCell ⟨w.heap.size, 2, none⟩ (.slice (some ⟨g, 0, none⟩) n c))) ∧
  Below w.heap.size w ((((w1.setCell ⟨g, k * 3, none⟩ (.int .i64 4)).setCell ⟨g, k * 3 + 1, none⟩ (.int .i64 tz)).setCell ⟨g, k * 3 + 2, none⟩ (.int .i64 0)).setCell ⟨w.heap.size, 2, none⟩ (.slice (some ⟨g, 0, none⟩) n c)) ∧
  (((((w1.setCell ⟨g, k * 3, none⟩ (.int .i64 4)).setCell ⟨g, k * 3 + 1, none⟩ (.int .i64 tz)).setCell ⟨g, k * 3 + 2, none⟩ (.int .i64 0)).setCell ⟨w.heap.size, 2, none⟩ (.slice (some ⟨g, 0, none⟩) n c)).cell? ⟨w.heap.size, 0, none⟩ = some (.int .i64 t) ∧ ((((w1.setCell ⟨g, k * 3, none⟩ (.int .i64 4)).setCell ⟨g, k * 3 + 1, none⟩ (.int .i64 tz)).setCell ⟨g, k * 3 + 2, none⟩ (.int .i64 0)).setCell ⟨w.heap.size, 2, none⟩ (.slice (some ⟨g, 0, none⟩) n c)).cell? ⟨w.heap.size, 1, none⟩ = some (.slice vo vn vc) ∧ ((((w1.setCell ⟨g, k * 3, none⟩ (.int .i64 4)).setCell ⟨g, k * 3 + 1, none⟩ (.int .i64 tz)).setCell ⟨g, k * 3 + 2, none⟩ (.int .i64 0)).setCell ⟨w.heap.size, 2, none⟩ (.slice (some ⟨g, 0, none⟩) n c)).cell? ⟨w.heap.size, 2, none⟩ = some (.slice (some ⟨g, 0, none⟩) n c)) := by
 rw [Nat.zero_add, List.nil_append] at h
 have hbg : w.heap.size + 1 ≤ g ∧ g < w1.heap.size := World.ownsRow.lt h g rfl
 have hM : w1.heap[w.heap.size]? = ((w.alloc (.cells #[.int .i64 t, .slice vo vn vc, .slice io n ic] 30)).alloc (.cells #[] 47)).heap[w.heap.size]? := gx.block _ (by simp; omega) (by simp)
 have hB1 : Below w.heap.size w w1 := hb0.grown gx (by simp; omega) (fun b e => by cases e; omega)
 have hBW : Below w.heap.size w ((((w1.setCell ⟨g, k * 3, none⟩ (.int .i64 4)).setCell ⟨g, k * 3 + 1, none⟩ (.int .i64 tz)).setCell ⟨g, k * 3 + 2, none⟩ (.int .i64 0)).setCell ⟨w.heap.size, 2, none⟩ (.slice (some ⟨g, 0, none⟩) n c)) :=
  bset (bset (bset (bset hB1 (by show _ ≤ g; omega) _) (by show _ ≤ g; omega) _) (by show _ ≤ g; omega) _) (Nat.le_refl _) _
 have hne : ∀ j q, (⟨g, j, none⟩ : Addr) ≠ ⟨w.heap.size, q, none⟩ := fun j q e => by injection e with e; omega
 have n0 : w1.cell? ⟨w.heap.size, 0, none⟩ = some (.int .i64 t) := by rw [World.cell?_of_block (a := ⟨w.heap.size, 0, none⟩) hM]; simp [go_sem]
 have n1 : w1.cell? ⟨w.heap.size, 1, none⟩ = some (.slice vo vn vc) := by rw [World.cell?_of_block (a := ⟨w.heap.size, 1, none⟩) hM]; simp [go_sem]
 have n2 : w1.cell? ⟨w.heap.size, 2, none⟩ = some (.slice io n ic) := by rw [World.cell?_of_block (a := ⟨w.heap.size, 2, none⟩) hM]; simp [go_sem]
 have c3 : ∀ q, (((w1.setCell ⟨g, k * 3, none⟩ (.int .i64 4)).setCell ⟨g, k * 3 + 1, none⟩ (.int .i64 tz)).setCell ⟨g, k * 3 + 2, none⟩ (.int .i64 0)).cell? ⟨w.heap.size, q, none⟩ = w1.cell? ⟨w.heap.size, q, none⟩ := fun q => by
  rw [World.cell?_setCell_other _ _ _ _ (hne _ q), World.cell?_setCell_other _ _ _ _ (hne _ q), World.cell?_setCell_other _ _ _ _ (hne _ q)]
 refine ⟨⟨n0, n1, n2, ?_⟩, fun hc => ?_, hBW, ?_, ?_, ?_⟩
 ·rw [World.frozen?_of_block (a := ⟨w.heap.size, 2, none⟩) hM]; simp [go_sem]
 ·have o1 := own_put (own_put (own_put h (k * 3) (.int .i64 4)) (k * 3 + 1) (.int .i64 tz)) (k * 3 + 2) (.int .i64 0)
  rw [← icells_put cd.c (4, tz, 0) k (by omega)] at o1
  have o2 : OI (w.heap.size + 1) (.slice (some ⟨g, 0, none⟩) n c) (cd.c.set k (4, tz, 0)) (((w1.setCell ⟨g, k * 3, none⟩ (.int .i64 4)).setCell ⟨g, k * 3 + 1, none⟩ (.int .i64 tz)).setCell ⟨g, k * 3 + 2, none⟩ (.int .i64 0)) := by
   unfold OI
   rw [List.length_set, hn]
   exact o1
  have o3 := o2.sav (Sav.setCell _ ⟨w.heap.size, 2, none⟩ (.slice (some ⟨g, 0, none⟩) n c)) (fun q hq e => by injection hq with hq; have e' : q = w.heap.size := e; have hq' : g = q := hq; omega)
  obtain ⟨ao, c', hv, hcc, hI, hz⟩ := o3.shape
  rw [List.length_set, hn] at hv
  cases hv
  exact ⟨hc.vars.keep hBW, hI, hc.cap, hc.vnil, hz⟩
 ·rw [World.cell?_setCell_other _ _ _ _ (by simp), c3 0]; exact n0
 ·rw [World.cell?_setCell_other _ _ _ _ (by simp), c3 1]; exact n1
 ·exact World.cell?_setCell_same' _ _ _ (by rw [c3 2, n2]; rfl)
theorem fits_put {c : List Ins} (h : Fits c) (k : Nat) (tz : Int) : Fits (c.set k (4, tz, 0)) := by
 intro x hx
 rcases List.mem_or_eq_of_mem_set hx with h1 | h1
 ·exact h x h1
 ·subst h1; show (0 : Int) ≤ _; decide
set_option maxRecDepth 100000 in
set_option maxHeartbeats 8000000 in
theorem codeStops (cd : Cd) (vo io : Option Addr) (vc ic : Nat) (at_ tz : Int) (w : World) (hG : Gk w) (h : CodeAt cd vo vc io ic w) (hfit : Fits cd.c) :
  Calls Tryz.prog 9 #[.agg #[.int .i64 cd.t, .slice vo cd.vs.length vc, .slice io cd.c.length ic], .int .i64 at_, .int .i64 tz] w fun r w' => r = .returned (.bool true) ∧ Below w.heap.size w w' := by
 obtain ⟨i0, hi, hz0, hz1, hz2⟩ := info_parts infoIns
 have LIV := Lib.hid (fun W (hW : Below w.heap.size w W) => mlive12 W (hG.keep hW))
 have HC := Lib.hid h
 have HG := Lib.hid (fun W (hW : Below w.heap.size w W) => hG.keep hW)
 have HNIL := Lib.hid h.inil
 have HF := Lib.hid (fun k => fits_put hfit k tz)
 obtain ⟨t, ht⟩ : ∃ t, cd.t = t := ⟨_, rfl⟩
 obtain ⟨vn, hvn⟩ : ∃ n, cd.vs.length = n := ⟨_, rfl⟩
 obtain ⟨n, hn⟩ : ∃ n, cd.c.length = n := ⟨_, rfl⟩
 have HT := Lib.hid ht
 have HVN := Lib.hid hvn
 have HN := Lib.hid hn
 rw [hn] at HNIL
 rw [ht, hvn, hn]
 have HB0 := Lib.hid (show Below w.heap.size w (w.alloc (.cells #[.int .i64 t, .slice vo vn vc, .slice io n ic] 30)) from bal (bref w) _)
 have HBX := HB0
 have HBE := Lib.hid (show Below w.heap.size w ((w.alloc (.cells #[.int .i64 t, .slice vo vn vc, .slice io n ic] 30)).alloc (.cells #[] 47)) from bal (bal (bref w) _) _)
 have HOE : Hid (((w.alloc (.cells #[.int .i64 t, .slice vo vn vc, .slice io n ic] 30)).alloc (.cells #[] 47)).ownsRow (w.heap.size + 1) 47 3 (.slice (some ⟨w.heap.size + 1, 0, none⟩) 0 0) 0 []) := Lib.hid (by
  have := World.ownsRow_lit (w := (w.alloc (.cells #[.int .i64 t, .slice vo vn vc, .slice io n ic] 30))) (base := w.heap.size + 1) (e := 47) (size := 3) #[] 0 (by simp) (by unfold maxLen; omega) rfl
  simpa using this)
 clear h hfit hG ht hvn hn
 by_cases g1 : n ≤ 120
 rotate_left
 ·have z1 : (120 : Int) < (n : Int) := by omega
  clear g1
  go_enter Tryz.func9, Tryz.ntmps9
  go_wp2_with fail
  refine (LIV.out _ HB0.out).mono ?_
  rintro r u9 ⟨rfl, hb⟩
  have HB9 := Lib.hid (btr HB0.out hb)
  clear hb
  go_wp2_with fail
  go_ret
  exact ⟨rfl, HB9.out⟩
 have z1 : ¬ ((120 : Int) < (n : Int)) := by omega
 by_cases g2 : vn ≤ 100
 rotate_left
 ·have z2 : (100 : Int) < (vn : Int) := by omega
  clear g2
  go_enter Tryz.func9, Tryz.ntmps9
  go_wp2_with fail
  refine (LIV.out _ HB0.out).mono ?_
  rintro r u9 ⟨rfl, hb⟩
  have HB9 := Lib.hid (btr HB0.out hb)
  clear hb
  go_wp2_with fail
  go_ret
  exact ⟨rfl, HB9.out⟩
 have z2 : ¬ ((100 : Int) < (vn : Int)) := by omega
 by_cases g3 : at_ < 0
 ·clear g1 g2
  go_enter Tryz.func9, Tryz.ntmps9
  go_wp2_with fail
  refine (LIV.out _ HB0.out).mono ?_
  rintro r u9 ⟨rfl, hb⟩
  have HB9 := Lib.hid (btr HB0.out hb)
  clear hb
  go_wp2_with fail
  go_ret
  exact ⟨rfl, HB9.out⟩
 obtain ⟨k, rfl⟩ : ∃ k : Nat, at_ = (k : Int) := ⟨at_.toNat, by omega⟩
 have z3 : ¬ ((k : Int) < 0) := by omega
 by_cases g4 : k < n
 rotate_left
 ·have z4 : (n : Int) ≤ (k : Int) := by omega
  clear g1 g2 g3 g4
  go_enter Tryz.func9, Tryz.ntmps9
  go_wp2_with fail
  refine (LIV.out _ HB0.out).mono ?_
  rintro r u9 ⟨rfl, hb⟩
  have HB9 := Lib.hid (btr HB0.out hb)
  clear hb
  go_wp2_with fail
  go_ret
  exact ⟨rfl, HB9.out⟩
 have z4 : ¬ ((n : Int) ≤ (k : Int)) := by omega
 have hkz : (k : Int) < (n : Int) := by omega
 have hn0 : 0 < n := by omega
 have hkn : k < n := g4
 by_cases g5 : (k : Int) < tz ∧ tz ≤ (n : Int)
 ·obtain ⟨z5, z6⟩ := g5
  clear g1 g2 g3 g4
  go_enter Tryz.func9, Tryz.ntmps9
  go_wp2_with fail
  refine (LIV.out _ HB0.out).mono ?_
  rintro r u9 ⟨rfl, hb⟩
  have HB9 := Lib.hid (btr HB0.out hb)
  clear hb
  go_wp2_with fail
  go_ret
  exact ⟨rfl, HB9.out⟩
 have hlen : (cd.c.set k (4, tz, 0)).length = n := by rw [List.length_set]; exact HN.out
 have hget : (cd.c.set k (4, tz, 0)).getD k (0, 0, 0) = (4, tz, 0) := by
  rw [List.getD_eq_getElem?_getD, List.getElem?_set_self (by rw [HN.out]; exact hkn)]
  rfl
 have HSTOP := Lib.hid (runC_stops (t := cd.t) (vs := cd.vs) (c := cd.c.set k (4, tz, 0)) (i := k) (z := tz) (by rw [hlen]; exact hkn) hget (by rw [hlen]; omega))
 have MV := Lib.hid (fun g cp W (hW : Below w.heap.size w W) (hC : CodeAt ⟨cd.t, cd.vs, cd.c.set k (4, tz, 0)⟩ vo vc (some ⟨g, 0, none⟩) cp W) => mValidate ⟨cd.t, cd.vs, cd.c.set k (4, tz, 0)⟩ vo (some ⟨g, 0, none⟩) vc cp W (HG.out W hW).1 hC (HF.out k))
 have MP := Lib.hid (fun g cp W (hW : Below w.heap.size w W) (hC : CodeAt ⟨cd.t, cd.vs, cd.c.set k (4, tz, 0)⟩ vo vc (some ⟨g, 0, none⟩) cp W) => mPrint ⟨cd.t, cd.vs, cd.c.set k (4, tz, 0)⟩ vo (some ⟨g, 0, none⟩) vc cp W (HG.out W hW) hC (HF.out k))
 have MD := Lib.hid (fun g cp W (hW : Below w.heap.size w W) (hC : CodeAt ⟨cd.t, cd.vs, cd.c.set k (4, tz, 0)⟩ vo vc (some ⟨g, 0, none⟩) cp W) => mDepth ⟨cd.t, cd.vs, cd.c.set k (4, tz, 0)⟩ vo (some ⟨g, 0, none⟩) vc cp W (HG.out W hW).1 hC (HF.out k))
 simp only [prT_bad HSTOP.out, str_nil] at MP
 simp only [runC_err HSTOP.out] at MD
 obtain ⟨q, hq⟩ : ∃ q, (runC cd.t cd.vs (cd.c.set k (4, tz, 0))).2 = q := ⟨_, rfl⟩
 have hq0 : q ≠ 0 := by rw [← hq]; exact HSTOP.out
 have hqb : (q != 0) = true := bne_yes hq0
 simp only [hq] at MV
 simp only [hlen, HT.out, HVN.out] at MV MP MD
 clear HSTOP hget hlen hq g3
 by_cases g6 : (k : Int) < tz
 ·have z6 : ¬ (tz ≤ (n : Int)) := by omega
  clear g1 g2 g4 g5
  go_enter Tryz.func9, Tryz.ntmps9
  go_wp2_with (at_builtin; refine wpList_append_own_any rfl (.tmp 42) (.tmp 44) 28 rfl (w.heap.size + 1) 47 i0 (.agg #[.int .i64 0, .int .i64 0, .int .i64 0]) 3 24 Tryz.underlying28 hi hz0 hz1 hz2 rfl (by decide) _ 0 [] rfl HOE.out io n ic (icells cd.c) rfl (by rw [icells_length, HN.out]) (by intro e; have := HNIL.out e; omega) (inews (HC.out.ins.keep HBE.out)) (icells_mem cd.c) (by unfold maxLen; omega) (by omega) (by simp) ?_; intro v1 w1 ox gx; obtain ⟨g, cp, rfl, hg1⟩ := stop_own HN.out hn0 ox; obtain ⟨s0, s1, s2, s3, s4, s5⟩ := stop_cells HN.out ox hkn; have HX := Lib.hid (stop_done (t := t) (vo := vo) (io := io) (vn := vn) (vc := vc) (ic := ic) HN.out HBE.out HBX.out gx ox hkn tz); obtain ⟨m0, m1, m2, m3⟩ := HX.out.1; clear ox gx)
  have HC3 := Lib.hid (HX.out.2.1 HC.out)
  rw [HT.out] at HC3
  have HB3 := Lib.hid HX.out.2.2.1
  obtain ⟨b0, b1, b2⟩ := HX.out.2.2.2
  (try go_wp2_with fail)
  clear m0 m1 m2 m3 s0 s1 s2 s3 s4 s5
  refine (MV.out g cp _ HB3.out HC3.out).mono ?_
  rintro r w4 ⟨rfl, hb⟩
  replace b0 := keepc hb b0
  replace b1 := keepc hb b1
  replace b2 := keepc hb b2
  have HB4 := Lib.hid (btr HB3.out hb)
  have HC4 := Lib.hid (HC3.out.keep hb)
  clear hb
  go_wp2_with fail
  refine (MP.out g cp _ HB4.out HC4.out).mono ?_
  rintro r w5 ⟨rfl, hb⟩
  replace b0 := keepc hb b0
  replace b1 := keepc hb b1
  replace b2 := keepc hb b2
  have HB5 := Lib.hid (btr HB4.out hb)
  have HC5 := Lib.hid (HC4.out.keep hb)
  clear hb
  go_wp2_with fail
  refine (MD.out g cp _ HB5.out HC5.out).mono ?_
  rintro r w6 ⟨rfl, hb⟩
  have HB6 := Lib.hid (btr HB5.out hb)
  clear hb
  go_wp2_with fail
  refine (LIV.out _ HB6.out).mono ?_
  rintro r w7 ⟨rfl, hb⟩
  have HB7 := Lib.hid (btr HB6.out hb)
  clear hb
  go_wp2_with fail
  go_ret
  exact ⟨rfl, HB7.out⟩
 ·clear g1 g2 g4 g5
  go_enter Tryz.func9, Tryz.ntmps9
  go_wp2_with (at_builtin; refine wpList_append_own_any rfl (.tmp 42) (.tmp 44) 28 rfl (w.heap.size + 1) 47 i0 (.agg #[.int .i64 0, .int .i64 0, .int .i64 0]) 3 24 Tryz.underlying28 hi hz0 hz1 hz2 rfl (by decide) _ 0 [] rfl HOE.out io n ic (icells cd.c) rfl (by rw [icells_length, HN.out]) (by intro e; have := HNIL.out e; omega) (inews (HC.out.ins.keep HBE.out)) (icells_mem cd.c) (by unfold maxLen; omega) (by omega) (by simp) ?_; intro v1 w1 ox gx; obtain ⟨g, cp, rfl, hg1⟩ := stop_own HN.out hn0 ox; obtain ⟨s0, s1, s2, s3, s4, s5⟩ := stop_cells HN.out ox hkn; have HX := Lib.hid (stop_done (t := t) (vo := vo) (io := io) (vn := vn) (vc := vc) (ic := ic) HN.out HBE.out HBX.out gx ox hkn tz); obtain ⟨m0, m1, m2, m3⟩ := HX.out.1; clear ox gx)
  have HC3 := Lib.hid (HX.out.2.1 HC.out)
  rw [HT.out] at HC3
  have HB3 := Lib.hid HX.out.2.2.1
  obtain ⟨b0, b1, b2⟩ := HX.out.2.2.2
  (try go_wp2_with fail)
  clear m0 m1 m2 m3 s0 s1 s2 s3 s4 s5
  refine (MV.out g cp _ HB3.out HC3.out).mono ?_
  rintro r w4 ⟨rfl, hb⟩
  replace b0 := keepc hb b0
  replace b1 := keepc hb b1
  replace b2 := keepc hb b2
  have HB4 := Lib.hid (btr HB3.out hb)
  have HC4 := Lib.hid (HC3.out.keep hb)
  clear hb
  go_wp2_with fail
  refine (MP.out g cp _ HB4.out HC4.out).mono ?_
  rintro r w5 ⟨rfl, hb⟩
  replace b0 := keepc hb b0
  replace b1 := keepc hb b1
  replace b2 := keepc hb b2
  have HB5 := Lib.hid (btr HB4.out hb)
  have HC5 := Lib.hid (HC4.out.keep hb)
  clear hb
  go_wp2_with fail
  refine (MD.out g cp _ HB5.out HC5.out).mono ?_
  rintro r w6 ⟨rfl, hb⟩
  have HB6 := Lib.hid (btr HB5.out hb)
  clear hb
  go_wp2_with fail
  refine (LIV.out _ HB6.out).mono ?_
  rintro r w7 ⟨rfl, hb⟩
  have HB7 := Lib.hid (btr HB6.out hb)
  clear hb
  go_wp2_with fail
  go_ret
  exact ⟨rfl, HB7.out⟩
end Go.Proofs.YthanoilbcdhbkaaGreatDoor
