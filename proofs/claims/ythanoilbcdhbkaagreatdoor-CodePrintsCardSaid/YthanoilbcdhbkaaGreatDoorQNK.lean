/-
  The document's Print.
-/
import Derived.Test.YthanoilbcdhbkaaGreatDoorQNJ
import Derived.Test.YthanoilbcdhbkaaGreatDoorQL
namespace Go.Proofs.YthanoilbcdhbkaaGreatDoor
open Go Go.RowKit Go.Lib Go.Shelf WM TM EM YM

def Lq (M g1 g2 : Nat) (vo : Option Addr) (vn vc : Nat) (io : Option Addr) (n ic : Nat) (w W : World) : Prop :=
 Below w.heap.size w W ∧ W.cell? ⟨M, 1, none⟩ = some (.slice vo vn vc) ∧ W.cell? ⟨M, 2, none⟩ = some (.slice io n ic) ∧
 (∀ i, i < 4 → W.cell? ⟨g1, i, none⟩ = some (.string (str (kns.getD i [])))) ∧ (∀ i, i < 14 → W.cell? ⟨g2, i, none⟩ = some (.string (str (opWs.getD i []))))
theorem Lq.keep {M g1 g2 : Nat} {vo : Option Addr} {vn vc : Nat} {io : Option Addr} {n ic : Nat} {w W W' : World} (h : Lq M g1 g2 vo vn vc io n ic w W) (hb : Below W.heap.size W W') : Lq M g1 g2 vo vn vc io n ic w W' :=
 ⟨btr h.1 hb, keepc hb h.2.1, keepc hb h.2.2.1, fun i hi => keepc hb (h.2.2.2.1 i hi), fun i hi => keepc hb (h.2.2.2.2 i hi)⟩
theorem ins_push (vs : List Vr) (k : Nat) (z : Int) (hk : 1 ≤ k ∧ k ≤ 3) : insT vs (1, (k : Int), z) = [112, 117, 115, 104, 32] ++ kns.getD k [] ++ [32] ++ itoa z ++ [10] := by
 have hT : tyW (k : Int) = kns.getD k [] := by
  have : k = 1 ∨ k = 2 ∨ k = 3 := by omega
  rcases this with rfl | rfl | rfl <;> rfl
 unfold insT
 simp [hT]
theorem ins_load (vs : List Vr) (k : Nat) (z : Int) : insT vs (2, (k : Int), z) = [108, 111, 97, 100, 32] ++ (vs.getD k V0).1 ++ [10] := by unfold insT; simp [V0]
theorem ins_op (vs : List Vr) (k : Nat) (z : Int) : insT vs (3, ((k + 5 : Nat) : Int), z) = opWs.getD k [] ++ [10] := by
 have e : (((k + 5 : Nat) : Int) - 5).toNat = k := by omega
 unfold insT
 simp only [if_neg (show ¬ (3 : Int) = 1 by decide), if_neg (show ¬ (3 : Int) = 2 by decide), if_true, e]
theorem ins_jump (vs : List Vr) (a z : Int) : insT vs (4, a, z) = [106, 117, 109, 112, 32] ++ itoa a ++ [10] := by unfold insT; simp
theorem ins_false (vs : List Vr) (a z : Int) : insT vs (5, a, z) = [102, 97, 108, 115, 101, 32] ++ itoa a ++ [10] := by unfold insT; simp
theorem opWs_few (k : Nat) : (opWs.getD k []).length ≤ 3 := by
 by_cases hk : k < 14
 ·have : ∀ k, k < 14 → (opWs.getD k []).length ≤ 3 := by decide
  exact this _ hk
 ·rw [List.getD_eq_getElem?_getD, List.getElem?_eq_none (by show 14 ≤ _; omega)]; simp
theorem kns_few (k : Nat) : (kns.getD k []).length ≤ 6 := by
 by_cases hk : k < 4
 ·have : ∀ k, k < 4 → (kns.getD k []).length ≤ 6 := by decide
  exact this _ hk
 ·rw [List.getD_eq_getElem?_getD, List.getElem?_eq_none (by show 4 ≤ _; omega)]; simp
set_option maxRecDepth 100000 in
set_option maxHeartbeats 16000000 in
theorem rPrintC (cd : Cd) (vo io : Option Addr) (vc ic : Nat) (w : World) (h : CodeAt cd vo vc io ic w) (hfit : Fits cd.c) :
  Calls Tryz.prog 21 #[.agg #[.int .i64 cd.t, .slice vo cd.vs.length vc, .slice io cd.c.length ic]] w fun r w' => r = .returned (.string (str (prT cd.t cd.vs cd.c))) ∧ Below w.heap.size w w' := by
 have CV := Lib.hid (fun W (hW : Below w.heap.size w W) => rValidateC cd vo io vc ic W (h.keep hW))
 obtain ⟨q, hq⟩ : ∃ q, (runC cd.t cd.vs cd.c).2 = q := ⟨_, rfl⟩
 rw [hq] at CV
 have HB0 := Lib.hid (show Below w.heap.size w (w.alloc (.cells #[.int .i64 cd.t, .slice vo cd.vs.length vc, .slice io cd.c.length ic] 30)) from bal (bref w) _)
 by_cases hq0 : q = 0
 rotate_left
 ·rw [prT_bad (by rw [hq]; exact hq0)]
  have hqb : (q != 0) = true := bne_yes hq0
  obtain ⟨t, ht⟩ : ∃ t, cd.t = t := ⟨_, rfl⟩
  obtain ⟨vn, hvn⟩ : ∃ n, cd.vs.length = n := ⟨_, rfl⟩
  obtain ⟨n, hn⟩ : ∃ n, cd.c.length = n := ⟨_, rfl⟩
  rw [ht, hvn, hn] at CV HB0 ⊢
  clear h hfit hq ht hvn hn hq0
  go_enter Tryz.func21, Tryz.ntmps21
  go_wp2_with fail
  refine (CV.out _ HB0.out).mono ?_
  rintro r w1 ⟨rfl, hb1⟩
  have HB1 := Lib.hid (btr HB0.out hb1)
  clear hb1
  go_wp2_with fail
  go_ret
  exact ⟨rfl, HB1.out⟩
 subst hq0
 rw [prT_ok hq]
 have HVAL := Lib.hid (runC_valid hq)
 have HFEW := Lib.hid (lines_few hq hfit)
 have H16 := Lib.hid (name_few HVAL.out.2.1)
 have HV := Lib.hid h.vars
 have HI := Lib.hid h.ins
 have HF := Lib.hid (fun k (hk : k < cd.c.length) => hfit _ (getD_mem'' I0 cd.c k hk))
 obtain ⟨t, ht⟩ : ∃ t, cd.t = t := ⟨_, rfl⟩
 obtain ⟨vn, hvn⟩ : ∃ n, cd.vs.length = n := ⟨_, rfl⟩
 obtain ⟨n, hn⟩ : ∃ n, cd.c.length = n := ⟨_, rfl⟩
 have HVN := Lib.hid hvn
 have HN := Lib.hid hn
 have hn128 : n ≤ 128 := by rw [← hn]; exact HVAL.out.1
 rw [hn] at HFEW HF
 rw [ht, hvn, hn] at CV HB0
 rw [ht, hvn, hn]
 obtain ⟨OUT, hOUT⟩ : ∃ OUT, str (linesT cd.vs cd.c) = OUT := ⟨_, rfl⟩
 rw [hOUT]
 have HOUT := Lib.hid hOUT
 clear h hfit hq ht hvn hn hOUT
 go_enter Tryz.func21, Tryz.ntmps21
 go_wp2_with fail
 refine (CV.out _ HB0.out).mono ?_
 rintro r w1 ⟨rfl, hb1⟩
 have a1 := keepc hb1 (show (w.alloc (.cells #[.int .i64 t, .slice vo vn vc, .slice io n ic] 30)).cell? ⟨w.heap.size, 1, none⟩ = some (.slice vo vn vc) by simp [go_sem])
 have a2 := keepc hb1 (show (w.alloc (.cells #[.int .i64 t, .slice vo vn vc, .slice io n ic] 30)).cell? ⟨w.heap.size, 2, none⟩ = some (.slice io n ic) by simp [go_sem])
 have HB1 := Lib.hid (btr HB0.out hb1)
 clear hb1 CV HB0
 go_wp2_with fail
 obtain ⟨W2, hW2⟩ : ∃ W2, w1.alloc (.cells #[.string ⟨#[]⟩, .string ⟨#[110, 117, 109, 98, 101, 114]⟩, .string ⟨#[97, 109, 111, 117, 110, 116]⟩, .string ⟨#[114, 97, 116, 101]⟩] 9) = W2 := ⟨_, rfl⟩
 have hs2 : W2.heap.size = w1.heap.size + 1 := by rw [← hW2]; simp
 have hb2 : Below w1.heap.size w1 W2 := by rw [← hW2]; exact bal (bref w1) _
 have K2 : ∀ i, i < 4 → W2.cell? ⟨w1.heap.size, i, none⟩ = some (.string (str (kns.getD i []))) := by
  intro i hi
  have : i = 0 ∨ i = 1 ∨ i = 2 ∨ i = 3 := by omega
  rw [← hW2]
  rcases this with rfl | rfl | rfl | rfl <;> (simp [go_sem]; rfl)
 obtain ⟨W3, hW3⟩ : ∃ W3, W2.alloc (.cells #[.string ⟨#[97, 100, 100]⟩, .string ⟨#[115, 117, 98]⟩, .string ⟨#[109, 117, 108]⟩, .string ⟨#[100, 105, 118]⟩, .string ⟨#[110, 101, 103]⟩, .string ⟨#[101, 113]⟩, .string ⟨#[110, 101]⟩, .string ⟨#[108, 116]⟩, .string ⟨#[108, 101]⟩, .string ⟨#[97, 110, 100]⟩, .string ⟨#[111, 114]⟩, .string ⟨#[110, 111, 116]⟩, .string ⟨#[109, 105, 110]⟩, .string ⟨#[109, 97, 120]⟩] 9) = W3 := ⟨_, rfl⟩
 have hb3 : Below W2.heap.size W2 W3 := by rw [← hW3]; exact bal (bref W2) _
 have O3 : ∀ i, i < 14 → W3.cell? ⟨w1.heap.size + 1, i, none⟩ = some (.string (str (opWs.getD i []))) := by
  intro i hi
  have : i = 0 ∨ i = 1 ∨ i = 2 ∨ i = 3 ∨ i = 4 ∨ i = 5 ∨ i = 6 ∨ i = 7 ∨ i = 8 ∨ i = 9 ∨ i = 10 ∨ i = 11 ∨ i = 12 ∨ i = 13 := by omega
  rw [← hW3, ← hs2]
  rcases this with rfl | rfl | rfl | rfl | rfl | rfl | rfl | rfl | rfl | rfl | rfl | rfl | rfl | rfl <;> (simp [go_sem]; rfl)
 have HL0 : Hid (Lq w.heap.size w1.heap.size (w1.heap.size + 1) vo vn vc io n ic w W3) := Lib.hid ⟨btr (btr HB1.out hb2) hb3, keepc hb3 (keepc hb2 a1), keepc hb3 (keepc hb2 a2), fun i hi => keepc hb3 (K2 i hi), O3⟩
 simp only [hW2, hW3]
 clear hW2 hW3 K2 O3 hb2 hb3 a1 a2 HB1
 (try go_wp2_with fail)
 go_loopw [5, 6] (fun s i wr => ∃ (k : Nat), k ≤ n ∧ s = .string (str (linesT cd.vs (cd.c.take k))) ∧ i = .int .i64 k ∧ Lq w.heap.size w1.heap.size (w1.heap.size + 1) vo vn vc io n ic w wr) (fun _ i _ => n - (RowKit.intOf i).toNat)
 case atStart => exact ⟨0, by omega, by rw [List.take_zero]; rfl, rfl, HL0.out⟩
 case round =>
  obtain ⟨k, hk, rfl, rfl, hQ⟩ := hrel
  have HQ := Lib.hid hQ
  obtain ⟨S, hS⟩ : ∃ S, str (linesT cd.vs (cd.c.take k)) = S := ⟨_, rfl⟩
  have HS := Lib.hid hS
  have hSs : S.size ≤ 12928 := by
   rw [← hS, str_size]
   have := HFEW.out k hk
   omega
  simp only [hS]
  obtain ⟨_, b1, b2, _, _⟩ := HQ.out
  clear hQ hS HL0
  by_cases hlt : k < n
  ·have hkz : (k : Int) < (n : Int) := by omega
   have hkc : k < cd.c.length := by rw [HN.out]; exact hlt
   obtain ⟨ib, off, rfl, hib, c0, c1, c2⟩ := (HI.out.keep HQ.out.1) k hkc
   have FM := HVAL.out.2.2 k hkc
   rw [HN.out] at FM
   have hz := HF.out k hlt
   have NX := linesT_next cd.vs cd.c k hkc
   obtain ⟨x, hx⟩ : ∃ x, cd.c.getD k I0 = x := ⟨_, rfl⟩
   rw [show cd.c.getD k (0, 0, 0) = x from hx] at FM NX
   rw [hx] at c0 c1 c2 hz
   obtain ⟨o, a, z⟩ := x
   simp only at c0 c1 c2 hz
   unfold YM.Form at FM
   simp only [HVN.out] at FM
   have HBi := Lib.hid (show Below wr.heap.size wr (wr.alloc (.cells #[.int .i64 o, .int .i64 a, .int .i64 z] 47)) from bal (bref wr) _)
   have HQi := Lib.hid (HQ.out.keep HBi.out)
   obtain ⟨_, d1, d2, _, _⟩ := HQi.out
   clear hx hib
   by_cases h1 : o = 1
   ·subst h1
    obtain ⟨j, rfl⟩ : ∃ j : Nat, a = (j : Int) := ⟨a.toNat, by omega⟩
    have hj : 1 ≤ j ∧ j ≤ 3 ∧ 0 ≤ z := by omega
    have IT := Lib.hid (fun W => rItoa z hj.2.2 hz W)
    have kc := HQi.out.2.2.2.1 j (by omega)
    have hKs : (str (kns.getD j [])).size ≤ 6 := by rw [str_size]; exact kns_few j
    have hZs : (str (itoa z)).size ≤ 20 := by rw [str_size]; exact itoa_few z hj.2.2 hz
    have HR := Lib.hid (show str (linesT cd.vs (cd.c.take (k + 1))) = ((((S ++ ⟨#[112, 117, 115, 104, 32]⟩) ++ str (kns.getD j [])) ++ ⟨#[32]⟩) ++ str (itoa z)) ++ ⟨#[10]⟩ by
     rw [NX, ins_push _ _ _ ⟨hj.1, hj.2.1⟩, ← HS.out, show (⟨#[112, 117, 115, 104, 32]⟩ : ByteArray) = str [112, 117, 115, 104, 32] from rfl, show (⟨#[32]⟩ : ByteArray) = str [32] from rfl, show (⟨#[10]⟩ : ByteArray) = str [10] from rfl]
     simp only [str_app, List.append_assoc])
    obtain ⟨K, hK⟩ : ∃ K, str (kns.getD j []) = K := ⟨_, rfl⟩
    obtain ⟨Z, hZ⟩ : ∃ Z, str (itoa z) = Z := ⟨_, rfl⟩
    rw [hK] at kc hKs HR
    rw [hZ] at IT hZs HR
    have s1 : ¬ (9223372036854775807 < S.size + 5) := by omega
    have s2 : ¬ (9223372036854775807 < S.size + 5 + K.size) := by omega
    have s3 : ¬ (9223372036854775807 < S.size + 5 + K.size + 1) := by omega
    have s4 : ¬ (9223372036854775807 < S.size + 5 + K.size + 1 + Z.size) := by omega
    have s5 : ¬ (9223372036854775807 < S.size + 5 + K.size + 1 + Z.size + 1) := by omega
    have hj3 : (j : Int) < 4 := by omega
    have g0 : ¬ ((j : Int) < 0) := by omega
    clear FM NX hK hZ hKs hZs hSs hz
    go_wp2_with fail
    obtain ⟨W1, hW1⟩ : ∃ W1, wr.alloc (.cells #[.int .i64 1, .int .i64 (j : Int), .int .i64 z] 47) = W1 := ⟨_, rfl⟩
    have i1 : W1.cell? ⟨wr.heap.size, 1, none⟩ = some (.int .i64 (j : Int)) := by rw [← hW1]; simp [go_sem]
    have i2 : W1.cell? ⟨wr.heap.size, 2, none⟩ = some (.int .i64 z) := by rw [← hW1]; simp [go_sem]
    rw [hW1] at HQi kc
    simp only [hW1]
    clear hW1 HBi d1 d2 b1 b2 c0 c1 c2
    refine wp_region_held_drew (S := (fun W => Below W1.heap.size W1 W)) (by kernel_rfl) (bdr (bref _)) (fun hH0 => ?_)
    refine wpAnyH_take (i := 0) (oi := _) (v := ?_) rfl (by kernel_rfl) (by kernel_rfl) (by kernel_rfl) (fun _ _ _ h => h) (Or.inl ⟨?_, ?_⟩) hH0 ?_
    rotate_left
    ·kernel_rfl
    ·(intro W' _; go_simp; (try with_reducible rfl))
    (try simp only [List.getElem_toArray, List.getElem_cons_zero, Act.put, List.setIfInBounds_toArray, List.set_cons_succ, List.set_cons_zero])
    refine wpAnyH_take (i := 1) (oi := _) (v := ?_) rfl (by kernel_rfl) (by kernel_rfl) (by kernel_rfl) (fun _ _ _ h => h) (Or.inl ⟨?_, ?_⟩) hH0 ?_
    rotate_left
    ·kernel_rfl
    ·(intro W' _; go_simp; (try with_reducible rfl))
    (try simp only [List.getElem_toArray, List.getElem_cons_succ, List.getElem_cons_zero, Act.put, List.setIfInBounds_toArray, List.set_cons_succ, List.set_cons_zero])
    refine wpAnyH_take (i := 2) (oi := _) (v := ?_) rfl (by kernel_rfl) (by kernel_rfl) (by kernel_rfl) (fun _ _ _ h => h) (Or.inl ⟨?_, ?_⟩) hH0 ?_
    rotate_left
    ·kernel_rfl
    ·(intro W' _; go_simp; (try with_reducible rfl))
    (try simp only [List.getElem_toArray, List.getElem_cons_succ, List.getElem_cons_zero, Act.put, List.setIfInBounds_toArray, List.set_cons_succ, List.set_cons_zero])
    refine wpAnyH_take (i := 3) (oi := _) (v := ?_) rfl (by kernel_rfl) (by kernel_rfl) (by kernel_rfl) (fun _ _ _ h => h) (Or.inl ⟨?_, ?_⟩) hH0 ?_
    rotate_left
    ·kernel_rfl
    ·(intro W' _; go_simp; (try with_reducible rfl))
    (try simp only [List.getElem_toArray, List.getElem_cons_succ, List.getElem_cons_zero, Act.put, List.setIfInBounds_toArray, List.set_cons_succ, List.set_cons_zero])
    refine wpAnyH_take (i := 4) (oi := _) (v := ?_) rfl (by kernel_rfl) (by kernel_rfl) (by kernel_rfl) (fun _ _ _ h => h) (Or.inl ⟨?_, ?_⟩) hH0 ?_
    rotate_left
    ·kernel_rfl
    ·(intro W' hSw; have f1 := keepc hSw i1; have f2 := keepc hSw i2; have f3 := keepc hSw kc; go_simp; (try with_reducible rfl))
    (try simp only [List.getElem_toArray, List.getElem_cons_succ, List.getElem_cons_zero, Act.put, List.setIfInBounds_toArray, List.set_cons_succ, List.set_cons_zero])
    refine wpAnyH_take (i := 5) (oi := _) (v := ?_) rfl (by kernel_rfl) (by kernel_rfl) (by kernel_rfl) (fun _ _ _ h => h) (Or.inl ⟨?_, ?_⟩) hH0 ?_
    rotate_left
    ·kernel_rfl
    ·(intro W' _; go_simp; (try with_reducible rfl))
    (try simp only [List.getElem_toArray, List.getElem_cons_succ, List.getElem_cons_zero, Act.put, List.setIfInBounds_toArray, List.set_cons_succ, List.set_cons_zero])
    refine wpAnyH_take (i := 6) (oi := _) (v := ?_) rfl (by kernel_rfl) (by kernel_rfl) (by kernel_rfl) (fun _ _ _ h => h) (Or.inl ⟨?_, ?_⟩) hH0 ?_
    rotate_left
    ·kernel_rfl
    ·(intro W' hSw; have f1 := keepc hSw i1; have f2 := keepc hSw i2; have f3 := keepc hSw kc; go_simp; (try with_reducible rfl))
    (try simp only [List.getElem_toArray, List.getElem_cons_succ, List.getElem_cons_zero, Act.put, List.setIfInBounds_toArray, List.set_cons_succ, List.set_cons_zero])
    refine wpAnyH_take (i := 7) (oi := _) (v := ?_) rfl (by kernel_rfl) (by kernel_rfl) (by kernel_rfl) (fun _ _ _ h => h) (Or.inl ⟨?_, ?_⟩) hH0 ?_
    rotate_left
    ·kernel_rfl
    ·(intro W' _; go_simp; (try with_reducible rfl))
    (try simp only [List.getElem_toArray, List.getElem_cons_succ, List.getElem_cons_zero, Act.put, List.setIfInBounds_toArray, List.set_cons_succ, List.set_cons_zero])
    refine wpAnyH_take (i := 8) (oi := _) (v := ?_) rfl (by kernel_rfl) (by kernel_rfl) (by kernel_rfl) (fun _ _ _ h => h) (Or.inl ⟨?_, ?_⟩) hH0 ?_
    rotate_left
    ·kernel_rfl
    ·(intro W' _; go_simp; (try with_reducible rfl))
    (try simp only [List.getElem_toArray, List.getElem_cons_succ, List.getElem_cons_zero, Act.put, List.setIfInBounds_toArray, List.set_cons_succ, List.set_cons_zero])
    refine wpAnyH_take (i := 9) (oi := _) (v := ?_) rfl (by kernel_rfl) (by kernel_rfl) (by kernel_rfl) (fun _ _ _ h => h) (Or.inl ⟨?_, ?_⟩) hH0 ?_
    rotate_left
    ·kernel_rfl
    ·(intro W' _; go_simp; (try with_reducible rfl))
    (try simp only [List.getElem_toArray, List.getElem_cons_succ, List.getElem_cons_zero, Act.put, List.setIfInBounds_toArray, List.set_cons_succ, List.set_cons_zero])
    refine wpAnyH_take (i := 10) (oi := _) (v := ?_) rfl (by kernel_rfl) (by kernel_rfl) (by kernel_rfl) (fun _ _ _ h => h) (Or.inl ⟨?_, ?_⟩) hH0 ?_
    rotate_left
    ·kernel_rfl
    ·(intro W' hSw; have f1 := keepc hSw i1; have f2 := keepc hSw i2; have f3 := keepc hSw kc; go_simp; (try with_reducible rfl))
    (try simp only [List.getElem_toArray, List.getElem_cons_succ, List.getElem_cons_zero, Act.put, List.setIfInBounds_toArray, List.set_cons_succ, List.set_cons_zero])
    refine wpAnyH_ready (rs := [11]) (by kernel_rfl) (by simp) ?_
    refine AllReadyH.cons (o := _) rfl (fun K hK => ?_) AllReadyH.nil
    go_simp
    refine (IT.out _).mono ?_
    rintro r w4 ⟨rfl, rfl⟩
    refine hK.out _ _ hH0 (fun hH1 => ?_)
    clear hK K
    (try simp only [List.getElem_toArray, List.getElem_cons_succ, List.getElem_cons_zero, Act.put, List.setIfInBounds_toArray, List.set_cons_succ, List.set_cons_zero])
    refine wpAnyH_take (i := 12) (oi := _) (v := ?_) rfl (by kernel_rfl) (by kernel_rfl) (by kernel_rfl) (fun _ _ _ h => h) (Or.inl ⟨?_, ?_⟩) hH1 ?_
    rotate_left
    ·kernel_rfl
    ·(intro W' _; go_simp; (try with_reducible rfl))
    (try simp only [List.getElem_toArray, List.getElem_cons_succ, List.getElem_cons_zero, Act.put, List.setIfInBounds_toArray, List.set_cons_succ, List.set_cons_zero])
    refine wpAnyH_take (i := 13) (oi := _) (v := ?_) rfl (by kernel_rfl) (by kernel_rfl) (by kernel_rfl) (fun _ _ _ h => h) (Or.inl ⟨?_, ?_⟩) hH1 ?_
    rotate_left
    ·kernel_rfl
    ·(intro W' _; go_simp; (try with_reducible rfl))
    (try simp only [List.getElem_toArray, List.getElem_cons_succ, List.getElem_cons_zero, Act.put, List.setIfInBounds_toArray, List.set_cons_succ, List.set_cons_zero])
    refine wpAnyH_take (i := 14) (oi := _) (v := ?_) rfl (by kernel_rfl) (by kernel_rfl) (by kernel_rfl) (fun _ _ _ h => h) (Or.inl ⟨?_, ?_⟩) hH1 ?_
    rotate_left
    ·kernel_rfl
    ·(intro W' _; go_simp; (try with_reducible rfl))
    (try simp only [List.getElem_toArray, List.getElem_cons_succ, List.getElem_cons_zero, Act.put, List.setIfInBounds_toArray, List.set_cons_succ, List.set_cons_zero])
    refine wpAnyH_done (by kernel_rfl) ?_ _
    go_wp2_with fail
    go_roundw
    case rel => exact ⟨k + 1, by omega, by rw [HR.out], by first | rfl | go_num, HQi.out.keep (by repeat (first | exact bref _ | refine bdr ?_ | refine bal ?_ _))⟩
    case measure => simp [RowKit.intOf]; omega
   have e1 : (o == 1) = false := beq_no h1
   by_cases h2 : o = 2
   ·subst h2
    obtain ⟨j, rfl⟩ : ∃ j : Nat, a = (j : Int) := ⟨a.toNat, by omega⟩
    have hj : j < vn := by omega
    obtain ⟨vb, voff, rfl, hvb, v0, v1⟩ := (HV.out.keep HQi.out.1) j (by rw [HVN.out]; exact hj)
    have hKs : (str (cd.vs.getD j V0).1).size ≤ 16 := by rw [str_size]; exact H16.out j
    have HR := Lib.hid (show str (linesT cd.vs (cd.c.take (k + 1))) = ((S ++ ⟨#[108, 111, 97, 100, 32]⟩) ++ str (cd.vs.getD j V0).1) ++ ⟨#[10]⟩ by
     rw [NX, ins_load, ← HS.out, show (⟨#[108, 111, 97, 100, 32]⟩ : ByteArray) = str [108, 111, 97, 100, 32] from rfl, show (⟨#[10]⟩ : ByteArray) = str [10] from rfl]
     simp only [str_app, List.append_assoc])
    obtain ⟨K, hK⟩ : ∃ K, str (cd.vs.getD j V0).1 = K := ⟨_, rfl⟩
    simp only [hK] at v0 hKs HR
    have s1 : ¬ (9223372036854775807 < S.size + 5) := by omega
    have s2 : ¬ (9223372036854775807 < S.size + 5 + K.size) := by omega
    have s3 : ¬ (9223372036854775807 < S.size + 5 + K.size + 1) := by omega
    have hjz : (j : Int) < (vn : Int) := by omega
    have g0 : ¬ ((j : Int) < 0) := by omega
    clear FM NX hK hKs hSs hz v1 h1
    go_wp2_with fail
    go_roundw
    case rel => exact ⟨k + 1, by omega, by rw [HR.out], by first | rfl | go_num, HQi.out⟩
    case measure => simp [RowKit.intOf]; omega
   have e2 : (o == 2) = false := beq_no h2
   by_cases h3 : o = 3
   ·subst h3
    obtain ⟨j, rfl⟩ : ∃ j : Nat, a = ((j + 5 : Nat) : Int) := ⟨(a - 5).toNat, by omega⟩
    have hj : j < 14 := by omega
    have kc := HQi.out.2.2.2.2 j hj
    have hKs : (str (opWs.getD j [])).size ≤ 3 := by rw [str_size]; exact opWs_few j
    have HR := Lib.hid (show str (linesT cd.vs (cd.c.take (k + 1))) = (S ++ str (opWs.getD j [])) ++ ⟨#[10]⟩ by
     rw [NX, ins_op, ← HS.out, show (⟨#[10]⟩ : ByteArray) = str [10] from rfl]
     simp only [str_app, List.append_assoc])
    obtain ⟨K, hK⟩ : ∃ K, str (opWs.getD j []) = K := ⟨_, rfl⟩
    rw [hK] at kc hKs HR
    have s2 : ¬ (9223372036854775807 < S.size + K.size) := by omega
    have s3 : ¬ (9223372036854775807 < S.size + K.size + 1) := by omega
    have hwj : wrap64 (((j + 5 : Nat) : Int) - 5) = (j : Int) := by unfold wrap64; omega
    obtain ⟨A, hA⟩ : ∃ A : Int, ((j + 5 : Nat) : Int) = A := ⟨_, rfl⟩
    rw [hA] at hwj c1 HBi HQi kc d1 d2
    have hjz : (j : Int) < 14 := by omega
    have g0 : ¬ ((j : Int) < 0) := by omega
    clear FM NX hK hKs hSs hz h1 h2 hA
    go_wp2_with fail
    go_roundw
    case rel => exact ⟨k + 1, by omega, by rw [HR.out], by first | rfl | go_num, HQi.out⟩
    case measure => simp [RowKit.intOf]; omega
   have e3 : (o == 3) = false := beq_no h3
   have IT := Lib.hid (fun W => rItoa a (by omega) (by omega) W)
   have hZs : (str (itoa a)).size ≤ 20 := by rw [str_size]; exact itoa_few a (by omega) (by omega)
   by_cases h4 : o = 4
   ·subst h4
    have HR := Lib.hid (show str (linesT cd.vs (cd.c.take (k + 1))) = ((S ++ ⟨#[106, 117, 109, 112, 32]⟩) ++ str (itoa a)) ++ ⟨#[10]⟩ by
     rw [NX, ins_jump, ← HS.out, show (⟨#[106, 117, 109, 112, 32]⟩ : ByteArray) = str [106, 117, 109, 112, 32] from rfl, show (⟨#[10]⟩ : ByteArray) = str [10] from rfl]
     simp only [str_app, List.append_assoc])
    obtain ⟨Z, hZ⟩ : ∃ Z, str (itoa a) = Z := ⟨_, rfl⟩
    rw [hZ] at IT hZs HR
    have s1 : ¬ (9223372036854775807 < S.size + 5) := by omega
    have s2 : ¬ (9223372036854775807 < S.size + 5 + Z.size) := by omega
    have s3 : ¬ (9223372036854775807 < S.size + 5 + Z.size + 1) := by omega
    clear FM NX hZ hZs hSs hz h1 h2 h3
    go_wp2_with fail
    refine (IT.out _).mono ?_
    rintro r w4 ⟨rfl, rfl⟩
    go_wp2_with fail
    go_roundw
    case rel => exact ⟨k + 1, by omega, by rw [HR.out], by first | rfl | go_num, HQi.out⟩
    case measure => simp [RowKit.intOf]; omega
   have e4 : (o == 4) = false := beq_no h4
   have h5 : o = 5 := by omega
   subst h5
   have HR := Lib.hid (show str (linesT cd.vs (cd.c.take (k + 1))) = ((S ++ ⟨#[102, 97, 108, 115, 101, 32]⟩) ++ str (itoa a)) ++ ⟨#[10]⟩ by
    rw [NX, ins_false, ← HS.out, show (⟨#[102, 97, 108, 115, 101, 32]⟩ : ByteArray) = str [102, 97, 108, 115, 101, 32] from rfl, show (⟨#[10]⟩ : ByteArray) = str [10] from rfl]
    simp only [str_app, List.append_assoc])
   obtain ⟨Z, hZ⟩ : ∃ Z, str (itoa a) = Z := ⟨_, rfl⟩
   rw [hZ] at IT hZs HR
   have s1 : ¬ (9223372036854775807 < S.size + 6) := by omega
   have s2 : ¬ (9223372036854775807 < S.size + 6 + Z.size) := by omega
   have s3 : ¬ (9223372036854775807 < S.size + 6 + Z.size + 1) := by omega
   clear FM NX hZ hZs hSs hz h1 h2 h3 h4
   go_wp2_with fail
   refine (IT.out _).mono ?_
   rintro r w4 ⟨rfl, rfl⟩
   go_wp2_with fail
   go_roundw
   case rel => exact ⟨k + 1, by omega, by rw [HR.out], by first | rfl | go_num, HQi.out⟩
   case measure => simp [RowKit.intOf]; omega
  ·have he : k = n := by omega
   subst he
   have ht : cd.c.take k = cd.c := by rw [← HN.out, List.take_length]
   have HE : Hid (S = OUT) := Lib.hid (by rw [← HS.out, ht, HOUT.out])
   clear ht
   go_wp2_with fail
   go_ret
   exact ⟨by rw [HE.out]; rfl, HQ.out.1⟩
end Go.Proofs.YthanoilbcdhbkaaGreatDoor
