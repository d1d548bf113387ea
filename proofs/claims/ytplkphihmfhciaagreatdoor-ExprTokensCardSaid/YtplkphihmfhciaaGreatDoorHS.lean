/-
  Expressions: the contract of the document's own written.
-/
import Derived.Test.YtplkphihmfhciaaGreatDoorHQ
namespace Go.Proofs.YtplkphihmfhciaaGreatDoor
open Go Go.RowKit Go.Lib Go.Shelf WM TM EM

set_option maxRecDepth 100000 in
set_option maxHeartbeats 8000000 in
theorem wk_two (o n : Int) (s : List UInt8) (a b : Ex) (ia : WC a) (ib : WC b) (so : Option Addr) (cap r : Nat) (z : Int) (w : World) (hz : z = (r : Int)) (hr8 : r ≤ 8) (ho : o ∈ infs) (hr : right (.mk o n s [a, b]) = true) (hs : siz (.mk o n s [a, b]) ≤ 100000) (h : ExprsAt so [a, b] w) (hrk : ¬ rk o < r) :
  Calls Tryz.prog 33 #[.agg #[.int .i64 o, .int .i64 n, .string (str s), .slice so 2 cap], .int .i64 z] w fun q w' => Wt q (body (.mk o n s [a, b])) w w' := by
 have hra := (right_parts hr).2 a (by simp)
 have hrb := (right_parts hr).2 b (by simp)
 rw [siz_two] at hs
 have TK := Lib.hid (fun k X W => rtoken k X W)
 obtain ⟨ba, oa, so2, cap2, rfl, hba, d0, d1, d2, d3, hA, _⟩ := h.at 0 (by simp)
 obtain ⟨bb, ob, so3, cap3, e, hbb, q0, q1, q2, q3, hB, _⟩ := h.at 1 (by simp)
 cases e
 simp only [List.getD_cons_zero, List.getD_cons_succ, Nat.zero_mul, Nat.add_zero, Nat.one_mul] at d0 d1 d2 d3 hA q0 q1 q2 q3 hB
 have SG := Lib.hid (fun W => rsign o ho W)
 have hrk6 := inf_ranks ho
 have hbody : body (.mk o n s [a, b]) = wr (lr o) a ++ EM.tk (word o).1 (word o).2 :: wr (rk o + 1) b := by
  rw [body, if_neg (by omega)]; rfl
 rw [hbody]
 have g19 : (o == 19) = false := by rw [beq_eq_false_iff_ne]; rintro rfl; exact absurd ho (by decide)
 have g17 : (o == 17) = false := by rw [beq_eq_false_iff_ne]; rintro rfl; exact absurd ho (by decide)
 have g18 : (o == 18) = false := by rw [beq_eq_false_iff_ne]; rintro rfl; exact absurd ho (by decide)
 have g16 : (o == 16) = false := by rw [beq_eq_false_iff_ne]; rintro rfl; exact absurd ho (by decide)
 have g9 : (o == 9) = false := by rw [beq_eq_false_iff_ne]; rintro rfl; exact absurd ho (by decide)
 have RK := Lib.hid (fun W => rrank o W)
 have hb2 : Below w.heap.size w (w.alloc (.cells #[.int .i64 o, .int .i64 n, .string (str s), .slice (some ⟨ba, oa, none⟩) 2 cap] 27)) := bal (bref w) _
 replace d0 := keepc hb2 d0
 replace d1 := keepc hb2 d1
 replace d2 := keepc hb2 d2
 replace d3 := keepc hb2 d3
 replace q0 := keepc hb2 q0
 replace q1 := keepc hb2 q1
 replace q2 := keepc hb2 q2
 replace q3 := keepc hb2 q3
 obtain ⟨M, hM⟩ : ∃ M, rk o = M := ⟨_, rfl⟩
 obtain ⟨L, hL⟩ : ∃ L, lr o = L := ⟨_, rfl⟩
 rw [hM] at RK hrk hrk6
 rw [hL] at hrk6
 rw [hM, hL]
 have hM6 : M ≤ 6 := by omega
 have hzz : ¬ ((M : Int) < z) := by omega
 clear hbody ho hM hL hz hr8 hrk hr h
 by_cases h4 : M = 4
 ·subst h4
  obtain rfl : 5 = L := by omega
  have RK2 := RK.out
  rw [show ((4 : Nat) : Int) = 4 from rfl] at RK2
  replace RK := Lib.hid RK2
  have hzz : ¬ ((4 : Int) < z) := by omega
  have hla := wr_len 5 a
  have hlb := wr_len 5 b
  have HPa := Lib.hid (wr_pos hra 5)
  have HPb := Lib.hid (wr_pos hrb 5)
  have AT := Lib.hid (fun W (hW : Below w.heap.size w W) => ia so2 cap2 5 5 W (by first | rfl | omega) (by omega) hra (by omega) (hA.keep hW))
  have BT := Lib.hid (fun W (hW : Below w.heap.size w W) => ib so3 cap3 5 5 W (by first | rfl | omega) (by omega) hrb (by omega) (hB.keep hW))
  clear hA hB hrk6
  go_enter Tryz.func33, Tryz.ntmps33
  go_wp2_with fail
  obtain ⟨W2, hW2⟩ : ∃ W2, (w.alloc (.cells #[.int .i64 o, .int .i64 n, .string (str s), .slice (some ⟨ba, oa, none⟩) 2 cap] 27)) = W2 := ⟨_, rfl⟩
  rw [hW2] at hb2 d0 d1 d2 d3 q0 q1 q2 q3
  have b00 : W2.cell? ⟨w.heap.size, 0, none⟩ = some (.int .i64 o) := by rw [← hW2]; simp [go_sem]
  have b10 : W2.cell? ⟨w.heap.size, 1, none⟩ = some (.int .i64 n) := by rw [← hW2]; simp [go_sem]
  have b20 : W2.cell? ⟨w.heap.size, 2, none⟩ = some (.string (str s)) := by rw [← hW2]; simp [go_sem]
  have b30 : W2.cell? ⟨w.heap.size, 3, none⟩ = some (.slice (some ⟨ba, oa, none⟩) 2 cap) := by rw [← hW2]; simp [go_sem]
  rw [hW2]
  clear hW2
  have HW2 := Lib.hid hb2
  clear hb2
  have hb2 := HW2.out
  have e00 := d0
  have e10 := d1
  have e20 := d2
  have e30 := d3
  have f00 := q0
  have f10 := q1
  have f20 := q2
  have f30 := q3
  clear d0 d1 d2 d3 q0 q1 q2 q3
  refine (RK.out _).mono ?_
  rintro r w0 ⟨rfl, rfl⟩
  have b0 := b00
  have b1 := b10
  have b2 := b20
  have b3 := b30
  go_wp2_with fail
  refine (AT.out _ (btr HW2.out (bref W2))).mono ?_
  rintro r u1 ⟨ao1, c1, rfl, hc, hT, hb⟩
  have HU1 := Lib.hid (btr (bref W2) hb)
  have HK1 := Lib.hid (OT.keep (OT.nil W2.heap.size W2) hb)
  have HT1 := Lib.hid hT
  clear hb hT hc
  have b0 := keepc HU1.out b00
  have b1 := keepc HU1.out b10
  have b2 := keepc HU1.out b20
  have b3 := keepc HU1.out b30
  have e0 := keepc HU1.out e00
  have e1 := keepc HU1.out e10
  have e2 := keepc HU1.out e20
  have e3 := keepc HU1.out e30
  have f0 := keepc HU1.out f00
  have f1 := keepc HU1.out f10
  have f2 := keepc HU1.out f20
  have f3 := keepc HU1.out f30
  go_wp2_with (at_builtin; refine wpList_app_toks rfl (.tmp 33) (.tmp 39) rfl W2.heap.size (.slice none 0 0) [] rfl HK1.out ao1 (wr 5 a) c1 rfl HT1.out (fun h => absurd h (tok_some HT1.out HPa.out)) (by simp only [List.length_append, List.length_cons, List.length_nil]; omega) HU1.out.size ?_; intro v1 w1 ox bx; have HO1 := Lib.hid ox; have HB1 := Lib.hid (HU1.out.trans bx); have b0 := keepc HB1.out b00; have b1 := keepc HB1.out b10; have b2 := keepc HB1.out b20; have b3 := keepc HB1.out b30; have e0 := keepc HB1.out e00; have e1 := keepc HB1.out e10; have e2 := keepc HB1.out e20; have e3 := keepc HB1.out e30; have f0 := keepc HB1.out f00; have f1 := keepc HB1.out f10; have f2 := keepc HB1.out f20; have f3 := keepc HB1.out f30; clear ox bx)
  go_wp2_with fail
  refine (SG.out _).mono ?_
  rintro r u2 ⟨rfl, hb⟩
  have HU2 := Lib.hid (btr HB1.out hb)
  have HK2 := Lib.hid (OT.keep HO1.out hb)
  clear hb
  have b0 := keepc HU2.out b00
  have b1 := keepc HU2.out b10
  have b2 := keepc HU2.out b20
  have b3 := keepc HU2.out b30
  have e0 := keepc HU2.out e00
  have e1 := keepc HU2.out e10
  have e2 := keepc HU2.out e20
  have e3 := keepc HU2.out e30
  have f0 := keepc HU2.out f00
  have f1 := keepc HU2.out f10
  have f2 := keepc HU2.out f20
  have f3 := keepc HU2.out f30
  go_wp2_with (at_builtin; refine wpList_app_toks rfl (.tmp 41) (.tmp 45) rfl W2.heap.size v1 (([] ++ (wr 5 a))) rfl (OT.keep HK2.out (bal (bref _) _)) (some ⟨u2.heap.size, 0, none⟩) [EM.tk (word o).1 (word o).2] 1 rfl (tok_new _ _ _ _) (fun h => by cases h) (by simp only [List.length_append, List.length_cons, List.length_nil]; omega) (bal HU2.out _).size ?_; intro v2 w2 ox bx; have HO2 := Lib.hid ox; have HB2 := Lib.hid ((bal HU2.out _).trans bx); have b0 := keepc HB2.out b00; have b1 := keepc HB2.out b10; have b2 := keepc HB2.out b20; have b3 := keepc HB2.out b30; have e0 := keepc HB2.out e00; have e1 := keepc HB2.out e10; have e2 := keepc HB2.out e20; have e3 := keepc HB2.out e30; have f0 := keepc HB2.out f00; have f1 := keepc HB2.out f10; have f2 := keepc HB2.out f20; have f3 := keepc HB2.out f30; clear ox bx)
  go_wp2_with fail
  refine (BT.out _ (btr HW2.out HB2.out)).mono ?_
  rintro r u3 ⟨ao3, c3, rfl, hc, hT, hb⟩
  have HU3 := Lib.hid (btr HB2.out hb)
  have HK3 := Lib.hid (OT.keep HO2.out hb)
  have HT3 := Lib.hid hT
  clear hb hT hc
  have b0 := keepc HU3.out b00
  have b1 := keepc HU3.out b10
  have b2 := keepc HU3.out b20
  have b3 := keepc HU3.out b30
  have e0 := keepc HU3.out e00
  have e1 := keepc HU3.out e10
  have e2 := keepc HU3.out e20
  have e3 := keepc HU3.out e30
  have f0 := keepc HU3.out f00
  have f1 := keepc HU3.out f10
  have f2 := keepc HU3.out f20
  have f3 := keepc HU3.out f30
  go_wp2_with (at_builtin; refine wpList_app_toks rfl (.tmp 47) (.tmp 54) rfl W2.heap.size v2 ((([] ++ (wr 5 a))) ++ [EM.tk (word o).1 (word o).2]) rfl HK3.out ao3 (wr 5 b) c3 rfl HT3.out (fun h => absurd h (tok_some HT3.out HPb.out)) (by simp only [List.length_append, List.length_cons, List.length_nil]; omega) HU3.out.size ?_; intro v3 w3 ox bx; have HO3 := Lib.hid ox; have HB3 := Lib.hid (HU3.out.trans bx); have b0 := keepc HB3.out b00; have b1 := keepc HB3.out b10; have b2 := keepc HB3.out b20; have b3 := keepc HB3.out b30; have e0 := keepc HB3.out e00; have e1 := keepc HB3.out e10; have e2 := keepc HB3.out e20; have e3 := keepc HB3.out e30; have f0 := keepc HB3.out f00; have f1 := keepc HB3.out f10; have f2 := keepc HB3.out f20; have f3 := keepc HB3.out f30; clear ox bx)
  have hO := HO3.out
  rw [show (((([] ++ (wr 5 a))) ++ [EM.tk (word o).1 (word o).2]) ++ (wr 5 b)) = wr 5 a ++ EM.tk (word o).1 (word o).2 :: wr 5 b from by simp] at hO
  obtain ⟨bo, d, rfl, hcd, hTd, _⟩ := hO.shape
  have HTd := Lib.hid hTd
  clear hO hTd
  go_wp2_with fail
  go_ret
  exact ⟨bo, d, rfl, hcd, HTd.out, btr hb2 HB3.out⟩
 ·have g4 : ((M : Int) == 4) = false := by rw [beq_eq_false_iff_ne]; omega
  obtain rfl : M = L := by omega
  have hla := wr_len M a
  have hlb := wr_len (M + 1) b
  have HPa := Lib.hid (wr_pos hra M)
  have HPb := Lib.hid (wr_pos hrb (M + 1))
  have AT := Lib.hid (fun W (hW : Below w.heap.size w W) => ia so2 cap2 M (M : Int) W (by first | rfl | omega) (by omega) hra (by omega) (hA.keep hW))
  have BT := Lib.hid (fun W (hW : Below w.heap.size w W) => ib so3 cap3 (M + 1) ((M : Int) + 1) W (by first | rfl | omega) (by omega) hrb (by omega) (hB.keep hW))
  clear hA hB hrk6
  go_enter Tryz.func33, Tryz.ntmps33
  go_wp2_with fail
  obtain ⟨W2, hW2⟩ : ∃ W2, (w.alloc (.cells #[.int .i64 o, .int .i64 n, .string (str s), .slice (some ⟨ba, oa, none⟩) 2 cap] 27)) = W2 := ⟨_, rfl⟩
  rw [hW2] at hb2 d0 d1 d2 d3 q0 q1 q2 q3
  have b00 : W2.cell? ⟨w.heap.size, 0, none⟩ = some (.int .i64 o) := by rw [← hW2]; simp [go_sem]
  have b10 : W2.cell? ⟨w.heap.size, 1, none⟩ = some (.int .i64 n) := by rw [← hW2]; simp [go_sem]
  have b20 : W2.cell? ⟨w.heap.size, 2, none⟩ = some (.string (str s)) := by rw [← hW2]; simp [go_sem]
  have b30 : W2.cell? ⟨w.heap.size, 3, none⟩ = some (.slice (some ⟨ba, oa, none⟩) 2 cap) := by rw [← hW2]; simp [go_sem]
  rw [hW2]
  clear hW2
  have HW2 := Lib.hid hb2
  clear hb2
  have hb2 := HW2.out
  have e00 := d0
  have e10 := d1
  have e20 := d2
  have e30 := d3
  have f00 := q0
  have f10 := q1
  have f20 := q2
  have f30 := q3
  clear d0 d1 d2 d3 q0 q1 q2 q3
  refine (RK.out _).mono ?_
  rintro r w0 ⟨rfl, rfl⟩
  have b0 := b00
  have b1 := b10
  have b2 := b20
  have b3 := b30
  go_wp2_with fail
  refine (AT.out _ (btr HW2.out (bref W2))).mono ?_
  rintro r u1 ⟨ao1, c1, rfl, hc, hT, hb⟩
  have HU1 := Lib.hid (btr (bref W2) hb)
  have HK1 := Lib.hid (OT.keep (OT.nil W2.heap.size W2) hb)
  have HT1 := Lib.hid hT
  clear hb hT hc
  have b0 := keepc HU1.out b00
  have b1 := keepc HU1.out b10
  have b2 := keepc HU1.out b20
  have b3 := keepc HU1.out b30
  have e0 := keepc HU1.out e00
  have e1 := keepc HU1.out e10
  have e2 := keepc HU1.out e20
  have e3 := keepc HU1.out e30
  have f0 := keepc HU1.out f00
  have f1 := keepc HU1.out f10
  have f2 := keepc HU1.out f20
  have f3 := keepc HU1.out f30
  go_wp2_with (at_builtin; refine wpList_app_toks rfl (.tmp 33) (.tmp 39) rfl W2.heap.size (.slice none 0 0) [] rfl HK1.out ao1 (wr M a) c1 rfl HT1.out (fun h => absurd h (tok_some HT1.out HPa.out)) (by simp only [List.length_append, List.length_cons, List.length_nil]; omega) HU1.out.size ?_; intro v1 w1 ox bx; have HO1 := Lib.hid ox; have HB1 := Lib.hid (HU1.out.trans bx); have b0 := keepc HB1.out b00; have b1 := keepc HB1.out b10; have b2 := keepc HB1.out b20; have b3 := keepc HB1.out b30; have e0 := keepc HB1.out e00; have e1 := keepc HB1.out e10; have e2 := keepc HB1.out e20; have e3 := keepc HB1.out e30; have f0 := keepc HB1.out f00; have f1 := keepc HB1.out f10; have f2 := keepc HB1.out f20; have f3 := keepc HB1.out f30; clear ox bx)
  go_wp2_with fail
  refine (SG.out _).mono ?_
  rintro r u2 ⟨rfl, hb⟩
  have HU2 := Lib.hid (btr HB1.out hb)
  have HK2 := Lib.hid (OT.keep HO1.out hb)
  clear hb
  have b0 := keepc HU2.out b00
  have b1 := keepc HU2.out b10
  have b2 := keepc HU2.out b20
  have b3 := keepc HU2.out b30
  have e0 := keepc HU2.out e00
  have e1 := keepc HU2.out e10
  have e2 := keepc HU2.out e20
  have e3 := keepc HU2.out e30
  have f0 := keepc HU2.out f00
  have f1 := keepc HU2.out f10
  have f2 := keepc HU2.out f20
  have f3 := keepc HU2.out f30
  go_wp2_with (at_builtin; refine wpList_app_toks rfl (.tmp 41) (.tmp 45) rfl W2.heap.size v1 (([] ++ (wr M a))) rfl (OT.keep HK2.out (bal (bref _) _)) (some ⟨u2.heap.size, 0, none⟩) [EM.tk (word o).1 (word o).2] 1 rfl (tok_new _ _ _ _) (fun h => by cases h) (by simp only [List.length_append, List.length_cons, List.length_nil]; omega) (bal HU2.out _).size ?_; intro v2 w2 ox bx; have HO2 := Lib.hid ox; have HB2 := Lib.hid ((bal HU2.out _).trans bx); have b0 := keepc HB2.out b00; have b1 := keepc HB2.out b10; have b2 := keepc HB2.out b20; have b3 := keepc HB2.out b30; have e0 := keepc HB2.out e00; have e1 := keepc HB2.out e10; have e2 := keepc HB2.out e20; have e3 := keepc HB2.out e30; have f0 := keepc HB2.out f00; have f1 := keepc HB2.out f10; have f2 := keepc HB2.out f20; have f3 := keepc HB2.out f30; clear ox bx)
  go_wp2_with fail
  refine (BT.out _ (btr HW2.out HB2.out)).mono ?_
  rintro r u3 ⟨ao3, c3, rfl, hc, hT, hb⟩
  have HU3 := Lib.hid (btr HB2.out hb)
  have HK3 := Lib.hid (OT.keep HO2.out hb)
  have HT3 := Lib.hid hT
  clear hb hT hc
  have b0 := keepc HU3.out b00
  have b1 := keepc HU3.out b10
  have b2 := keepc HU3.out b20
  have b3 := keepc HU3.out b30
  have e0 := keepc HU3.out e00
  have e1 := keepc HU3.out e10
  have e2 := keepc HU3.out e20
  have e3 := keepc HU3.out e30
  have f0 := keepc HU3.out f00
  have f1 := keepc HU3.out f10
  have f2 := keepc HU3.out f20
  have f3 := keepc HU3.out f30
  go_wp2_with (at_builtin; refine wpList_app_toks rfl (.tmp 47) (.tmp 54) rfl W2.heap.size v2 ((([] ++ (wr M a))) ++ [EM.tk (word o).1 (word o).2]) rfl HK3.out ao3 (wr (M + 1) b) c3 rfl HT3.out (fun h => absurd h (tok_some HT3.out HPb.out)) (by simp only [List.length_append, List.length_cons, List.length_nil]; omega) HU3.out.size ?_; intro v3 w3 ox bx; have HO3 := Lib.hid ox; have HB3 := Lib.hid (HU3.out.trans bx); have b0 := keepc HB3.out b00; have b1 := keepc HB3.out b10; have b2 := keepc HB3.out b20; have b3 := keepc HB3.out b30; have e0 := keepc HB3.out e00; have e1 := keepc HB3.out e10; have e2 := keepc HB3.out e20; have e3 := keepc HB3.out e30; have f0 := keepc HB3.out f00; have f1 := keepc HB3.out f10; have f2 := keepc HB3.out f20; have f3 := keepc HB3.out f30; clear ox bx)
  have hO := HO3.out
  rw [show (((([] ++ (wr M a))) ++ [EM.tk (word o).1 (word o).2]) ++ (wr (M + 1) b)) = wr M a ++ EM.tk (word o).1 (word o).2 :: wr (M + 1) b from by simp] at hO
  obtain ⟨bo, d, rfl, hcd, hTd, _⟩ := hO.shape
  have HTd := Lib.hid hTd
  clear hO hTd
  go_wp2_with fail
  go_ret
  exact ⟨bo, d, rfl, hcd, HTd.out, btr hb2 HB3.out⟩
set_option maxRecDepth 100000 in
set_option maxHeartbeats 8000000 in
theorem wk_pair17 (n : Int) (s : List UInt8) (a b : Ex) (ia : WC a) (ib : WC b) (so : Option Addr) (cap r : Nat) (z : Int) (w : World) (hz : z = (r : Int)) (hr8 : r ≤ 8) (hr : right (.mk 17 n s [a, b]) = true) (hs : siz (.mk 17 n s [a, b]) ≤ 100000) (h : ExprsAt so [a, b] w) (hrk : ¬ rk 17 < r) :
  Calls Tryz.prog 33 #[.agg #[.int .i64 17, .int .i64 n, .string (str s), .slice so 2 cap], .int .i64 z] w fun q w' => Wt q (body (.mk 17 n s [a, b])) w w' := by
 have hra := (right_parts hr).2 a (by simp)
 have hrb := (right_parts hr).2 b (by simp)
 rw [siz_two] at hs
 have TK := Lib.hid (fun k X W => rtoken k X W)
 obtain ⟨ba, oa, so2, cap2, rfl, hba, d0, d1, d2, d3, hA, _⟩ := h.at 0 (by simp)
 obtain ⟨bb, ob, so3, cap3, e, hbb, q0, q1, q2, q3, hB, _⟩ := h.at 1 (by simp)
 cases e
 simp only [List.getD_cons_zero, List.getD_cons_succ, Nat.zero_mul, Nat.add_zero, Nat.one_mul] at d0 d1 d2 d3 hA q0 q1 q2 q3 hB
 have RK := Lib.hid (fun W => rrank 17 W)
 have e8 : ((rk 17 : Nat) : Int) = 8 := by decide
 rw [e8] at RK
 have hzz : ¬ ((8 : Int) < z) := by omega
 have hb2 : Below w.heap.size w (w.alloc (.cells #[.int .i64 17, .int .i64 n, .string (str s), .slice (some ⟨ba, oa, none⟩) 2 cap] 27)) := bal (bref w) _
 replace d0 := keepc hb2 d0
 replace d1 := keepc hb2 d1
 replace d2 := keepc hb2 d2
 replace d3 := keepc hb2 d3
 replace q0 := keepc hb2 q0
 replace q1 := keepc hb2 q1
 replace q2 := keepc hb2 q2
 replace q3 := keepc hb2 q3
 have hla := wr_len 0 a
 have hlb := wr_len 0 b
 have HPa := Lib.hid (wr_pos hra 0)
 have HPb := Lib.hid (wr_pos hrb 0)
 have AT := Lib.hid (fun W (hW : Below w.heap.size w W) => ia so2 cap2 0 0 W rfl (by omega) hra (by omega) (hA.keep hW))
 have BT := Lib.hid (fun W (hW : Below w.heap.size w W) => ib so3 cap3 0 0 W rfl (by omega) hrb (by omega) (hB.keep hW))
 clear hA hB hz hr8 hrk hr h e8
 go_enter Tryz.func33, Tryz.ntmps33
 go_wp2_with fail
 obtain ⟨W2, hW2⟩ : ∃ W2, (w.alloc (.cells #[.int .i64 17, .int .i64 n, .string (str s), .slice (some ⟨ba, oa, none⟩) 2 cap] 27)) = W2 := ⟨_, rfl⟩
 rw [hW2] at hb2 d0 d1 d2 d3 q0 q1 q2 q3
 have b00 : W2.cell? ⟨w.heap.size, 0, none⟩ = some (.int .i64 17) := by rw [← hW2]; simp [go_sem]
 have b10 : W2.cell? ⟨w.heap.size, 1, none⟩ = some (.int .i64 n) := by rw [← hW2]; simp [go_sem]
 have b20 : W2.cell? ⟨w.heap.size, 2, none⟩ = some (.string (str s)) := by rw [← hW2]; simp [go_sem]
 have b30 : W2.cell? ⟨w.heap.size, 3, none⟩ = some (.slice (some ⟨ba, oa, none⟩) 2 cap) := by rw [← hW2]; simp [go_sem]
 rw [hW2]
 clear hW2
 have HW2 := Lib.hid hb2
 clear hb2
 have hb2 := HW2.out
 have e00 := d0
 have e10 := d1
 have e20 := d2
 have e30 := d3
 have f00 := q0
 have f10 := q1
 have f20 := q2
 have f30 := q3
 clear d0 d1 d2 d3 q0 q1 q2 q3
 refine (RK.out _).mono ?_
 rintro r w0 ⟨rfl, rfl⟩
 have b0 := b00
 have b1 := b10
 have b2 := b20
 have b3 := b30
 go_wp2_with fail
 refine (TK.out _ _ _).mono ?_
 rintro r y1 ⟨rfl, hb⟩
 have HY1 := Lib.hid (btr (bref W2) hb)
 have HZ1 := Lib.hid (OT.keep (OT.nil W2.heap.size W2) hb)
 clear hb
 go_wp2_with fail
 refine (TK.out _ _ _).mono ?_
 rintro r u1 ⟨rfl, hb⟩
 have HU1 := Lib.hid (btr HY1.out hb)
 have HK1 := Lib.hid (OT.keep HZ1.out hb)
 clear hb
 go_wp2_with (at_builtin; refine wpList_app_toks rfl (.tmp 102) (.tmp 106) rfl W2.heap.size (.slice none 0 0) [] rfl (OT.keep HK1.out (bal (bref _) _)) (some ⟨u1.heap.size, 0, none⟩) [EM.tk 5 wMin, EM.tk 4 [40]] 2 rfl (tok_new2 _ _ _ _ _ _) (fun h => by cases h) (by simp only [List.length_append, List.length_cons, List.length_nil]; omega) (bal HU1.out _).size ?_; intro v1 w1 ox bx; have HO1 := Lib.hid ox; have HB1 := Lib.hid ((bal HU1.out _).trans bx); have b0 := keepc HB1.out b00; have b1 := keepc HB1.out b10; have b2 := keepc HB1.out b20; have b3 := keepc HB1.out b30; have e0 := keepc HB1.out e00; have e1 := keepc HB1.out e10; have e2 := keepc HB1.out e20; have e3 := keepc HB1.out e30; have f0 := keepc HB1.out f00; have f1 := keepc HB1.out f10; have f2 := keepc HB1.out f20; have f3 := keepc HB1.out f30; clear ox bx)
 go_wp2_with fail
 refine (AT.out _ (btr HW2.out HB1.out)).mono ?_
 rintro r u2 ⟨ao2, c2, rfl, hc, hT, hb⟩
 have HU2 := Lib.hid (btr HB1.out hb)
 have HK2 := Lib.hid (OT.keep HO1.out hb)
 have HT2 := Lib.hid hT
 clear hb hT hc
 have b0 := keepc HU2.out b00
 have b1 := keepc HU2.out b10
 have b2 := keepc HU2.out b20
 have b3 := keepc HU2.out b30
 have e0 := keepc HU2.out e00
 have e1 := keepc HU2.out e10
 have e2 := keepc HU2.out e20
 have e3 := keepc HU2.out e30
 have f0 := keepc HU2.out f00
 have f1 := keepc HU2.out f10
 have f2 := keepc HU2.out f20
 have f3 := keepc HU2.out f30
 go_wp2_with (at_builtin; refine wpList_app_toks rfl (.tmp 108) (.tmp 113) rfl W2.heap.size v1 (([] ++ [EM.tk 5 wMin, EM.tk 4 [40]])) rfl HK2.out ao2 (wr 0 a) c2 rfl HT2.out (fun h => absurd h (tok_some HT2.out HPa.out)) (by simp only [List.length_append, List.length_cons, List.length_nil]; omega) HU2.out.size ?_; intro v2 w2 ox bx; have HO2 := Lib.hid ox; have HB2 := Lib.hid (HU2.out.trans bx); have b0 := keepc HB2.out b00; have b1 := keepc HB2.out b10; have b2 := keepc HB2.out b20; have b3 := keepc HB2.out b30; have e0 := keepc HB2.out e00; have e1 := keepc HB2.out e10; have e2 := keepc HB2.out e20; have e3 := keepc HB2.out e30; have f0 := keepc HB2.out f00; have f1 := keepc HB2.out f10; have f2 := keepc HB2.out f20; have f3 := keepc HB2.out f30; clear ox bx)
 go_wp2_with fail
 refine (TK.out _ _ _).mono ?_
 rintro r u3 ⟨rfl, hb⟩
 have HU3 := Lib.hid (btr HB2.out hb)
 have HK3 := Lib.hid (OT.keep HO2.out hb)
 clear hb
 have b0 := keepc HU3.out b00
 have b1 := keepc HU3.out b10
 have b2 := keepc HU3.out b20
 have b3 := keepc HU3.out b30
 have e0 := keepc HU3.out e00
 have e1 := keepc HU3.out e10
 have e2 := keepc HU3.out e20
 have e3 := keepc HU3.out e30
 have f0 := keepc HU3.out f00
 have f1 := keepc HU3.out f10
 have f2 := keepc HU3.out f20
 have f3 := keepc HU3.out f30
 go_wp2_with (at_builtin; refine wpList_app_toks rfl (.tmp 115) (.tmp 117) rfl W2.heap.size v2 ((([] ++ [EM.tk 5 wMin, EM.tk 4 [40]])) ++ (wr 0 a)) rfl (OT.keep HK3.out (bal (bref _) _)) (some ⟨u3.heap.size, 0, none⟩) [EM.tk 4 [44]] 1 rfl (tok_new _ _ _ _) (fun h => by cases h) (by simp only [List.length_append, List.length_cons, List.length_nil]; omega) (bal HU3.out _).size ?_; intro v3 w3 ox bx; have HO3 := Lib.hid ox; have HB3 := Lib.hid ((bal HU3.out _).trans bx); have b0 := keepc HB3.out b00; have b1 := keepc HB3.out b10; have b2 := keepc HB3.out b20; have b3 := keepc HB3.out b30; have e0 := keepc HB3.out e00; have e1 := keepc HB3.out e10; have e2 := keepc HB3.out e20; have e3 := keepc HB3.out e30; have f0 := keepc HB3.out f00; have f1 := keepc HB3.out f10; have f2 := keepc HB3.out f20; have f3 := keepc HB3.out f30; clear ox bx)
 go_wp2_with fail
 refine (BT.out _ (btr HW2.out HB3.out)).mono ?_
 rintro r u4 ⟨ao4, c4, rfl, hc, hT, hb⟩
 have HU4 := Lib.hid (btr HB3.out hb)
 have HK4 := Lib.hid (OT.keep HO3.out hb)
 have HT4 := Lib.hid hT
 clear hb hT hc
 have b0 := keepc HU4.out b00
 have b1 := keepc HU4.out b10
 have b2 := keepc HU4.out b20
 have b3 := keepc HU4.out b30
 have e0 := keepc HU4.out e00
 have e1 := keepc HU4.out e10
 have e2 := keepc HU4.out e20
 have e3 := keepc HU4.out e30
 have f0 := keepc HU4.out f00
 have f1 := keepc HU4.out f10
 have f2 := keepc HU4.out f20
 have f3 := keepc HU4.out f30
 go_wp2_with (at_builtin; refine wpList_app_toks rfl (.tmp 119) (.tmp 124) rfl W2.heap.size v3 (((([] ++ [EM.tk 5 wMin, EM.tk 4 [40]])) ++ (wr 0 a)) ++ [EM.tk 4 [44]]) rfl HK4.out ao4 (wr 0 b) c4 rfl HT4.out (fun h => absurd h (tok_some HT4.out HPb.out)) (by simp only [List.length_append, List.length_cons, List.length_nil]; omega) HU4.out.size ?_; intro v4 w4 ox bx; have HO4 := Lib.hid ox; have HB4 := Lib.hid (HU4.out.trans bx); have b0 := keepc HB4.out b00; have b1 := keepc HB4.out b10; have b2 := keepc HB4.out b20; have b3 := keepc HB4.out b30; have e0 := keepc HB4.out e00; have e1 := keepc HB4.out e10; have e2 := keepc HB4.out e20; have e3 := keepc HB4.out e30; have f0 := keepc HB4.out f00; have f1 := keepc HB4.out f10; have f2 := keepc HB4.out f20; have f3 := keepc HB4.out f30; clear ox bx)
 go_wp2_with fail
 refine (TK.out _ _ _).mono ?_
 rintro r u5 ⟨rfl, hb⟩
 have HU5 := Lib.hid (btr HB4.out hb)
 have HK5 := Lib.hid (OT.keep HO4.out hb)
 clear hb
 have b0 := keepc HU5.out b00
 have b1 := keepc HU5.out b10
 have b2 := keepc HU5.out b20
 have b3 := keepc HU5.out b30
 have e0 := keepc HU5.out e00
 have e1 := keepc HU5.out e10
 have e2 := keepc HU5.out e20
 have e3 := keepc HU5.out e30
 have f0 := keepc HU5.out f00
 have f1 := keepc HU5.out f10
 have f2 := keepc HU5.out f20
 have f3 := keepc HU5.out f30
 go_wp2_with (at_builtin; refine wpList_app_toks rfl (.tmp 126) (.tmp 128) rfl W2.heap.size v4 ((((([] ++ [EM.tk 5 wMin, EM.tk 4 [40]])) ++ (wr 0 a)) ++ [EM.tk 4 [44]]) ++ (wr 0 b)) rfl (OT.keep HK5.out (bal (bref _) _)) (some ⟨u5.heap.size, 0, none⟩) [EM.tk 4 [41]] 1 rfl (tok_new _ _ _ _) (fun h => by cases h) (by simp only [List.length_append, List.length_cons, List.length_nil]; omega) (bal HU5.out _).size ?_; intro v5 w5 ox bx; have HO5 := Lib.hid ox; have HB5 := Lib.hid ((bal HU5.out _).trans bx); have b0 := keepc HB5.out b00; have b1 := keepc HB5.out b10; have b2 := keepc HB5.out b20; have b3 := keepc HB5.out b30; have e0 := keepc HB5.out e00; have e1 := keepc HB5.out e10; have e2 := keepc HB5.out e20; have e3 := keepc HB5.out e30; have f0 := keepc HB5.out f00; have f1 := keepc HB5.out f10; have f2 := keepc HB5.out f20; have f3 := keepc HB5.out f30; clear ox bx)
 have hO := HO5.out
 rw [show (((((([] ++ [EM.tk 5 wMin, EM.tk 4 [40]])) ++ (wr 0 a)) ++ [EM.tk 4 [44]]) ++ (wr 0 b)) ++ [EM.tk 4 [41]]) = body (.mk 17 n s [a, b]) from by (rw [body, if_pos (by decide), ← wr_zero a, ← wr_zero b]; simp [word])] at hO
 obtain ⟨bo, d, rfl, hcd, hTd, _⟩ := hO.shape
 have HTd := Lib.hid hTd
 clear hO hTd
 go_wp2_with fail
 go_ret
 exact ⟨bo, d, rfl, hcd, HTd.out, btr hb2 HB5.out⟩
set_option maxRecDepth 100000 in
set_option maxHeartbeats 8000000 in
theorem wk_pair18 (n : Int) (s : List UInt8) (a b : Ex) (ia : WC a) (ib : WC b) (so : Option Addr) (cap r : Nat) (z : Int) (w : World) (hz : z = (r : Int)) (hr8 : r ≤ 8) (hr : right (.mk 18 n s [a, b]) = true) (hs : siz (.mk 18 n s [a, b]) ≤ 100000) (h : ExprsAt so [a, b] w) (hrk : ¬ rk 18 < r) :
  Calls Tryz.prog 33 #[.agg #[.int .i64 18, .int .i64 n, .string (str s), .slice so 2 cap], .int .i64 z] w fun q w' => Wt q (body (.mk 18 n s [a, b])) w w' := by
 have hra := (right_parts hr).2 a (by simp)
 have hrb := (right_parts hr).2 b (by simp)
 rw [siz_two] at hs
 have TK := Lib.hid (fun k X W => rtoken k X W)
 obtain ⟨ba, oa, so2, cap2, rfl, hba, d0, d1, d2, d3, hA, _⟩ := h.at 0 (by simp)
 obtain ⟨bb, ob, so3, cap3, e, hbb, q0, q1, q2, q3, hB, _⟩ := h.at 1 (by simp)
 cases e
 simp only [List.getD_cons_zero, List.getD_cons_succ, Nat.zero_mul, Nat.add_zero, Nat.one_mul] at d0 d1 d2 d3 hA q0 q1 q2 q3 hB
 have RK := Lib.hid (fun W => rrank 18 W)
 have e8 : ((rk 18 : Nat) : Int) = 8 := by decide
 rw [e8] at RK
 have hzz : ¬ ((8 : Int) < z) := by omega
 have hb2 : Below w.heap.size w (w.alloc (.cells #[.int .i64 18, .int .i64 n, .string (str s), .slice (some ⟨ba, oa, none⟩) 2 cap] 27)) := bal (bref w) _
 replace d0 := keepc hb2 d0
 replace d1 := keepc hb2 d1
 replace d2 := keepc hb2 d2
 replace d3 := keepc hb2 d3
 replace q0 := keepc hb2 q0
 replace q1 := keepc hb2 q1
 replace q2 := keepc hb2 q2
 replace q3 := keepc hb2 q3
 have hla := wr_len 0 a
 have hlb := wr_len 0 b
 have HPa := Lib.hid (wr_pos hra 0)
 have HPb := Lib.hid (wr_pos hrb 0)
 have AT := Lib.hid (fun W (hW : Below w.heap.size w W) => ia so2 cap2 0 0 W rfl (by omega) hra (by omega) (hA.keep hW))
 have BT := Lib.hid (fun W (hW : Below w.heap.size w W) => ib so3 cap3 0 0 W rfl (by omega) hrb (by omega) (hB.keep hW))
 clear hA hB hz hr8 hrk hr h e8
 go_enter Tryz.func33, Tryz.ntmps33
 go_wp2_with fail
 obtain ⟨W2, hW2⟩ : ∃ W2, (w.alloc (.cells #[.int .i64 18, .int .i64 n, .string (str s), .slice (some ⟨ba, oa, none⟩) 2 cap] 27)) = W2 := ⟨_, rfl⟩
 rw [hW2] at hb2 d0 d1 d2 d3 q0 q1 q2 q3
 have b00 : W2.cell? ⟨w.heap.size, 0, none⟩ = some (.int .i64 18) := by rw [← hW2]; simp [go_sem]
 have b10 : W2.cell? ⟨w.heap.size, 1, none⟩ = some (.int .i64 n) := by rw [← hW2]; simp [go_sem]
 have b20 : W2.cell? ⟨w.heap.size, 2, none⟩ = some (.string (str s)) := by rw [← hW2]; simp [go_sem]
 have b30 : W2.cell? ⟨w.heap.size, 3, none⟩ = some (.slice (some ⟨ba, oa, none⟩) 2 cap) := by rw [← hW2]; simp [go_sem]
 rw [hW2]
 clear hW2
 have HW2 := Lib.hid hb2
 clear hb2
 have hb2 := HW2.out
 have e00 := d0
 have e10 := d1
 have e20 := d2
 have e30 := d3
 have f00 := q0
 have f10 := q1
 have f20 := q2
 have f30 := q3
 clear d0 d1 d2 d3 q0 q1 q2 q3
 refine (RK.out _).mono ?_
 rintro r w0 ⟨rfl, rfl⟩
 have b0 := b00
 have b1 := b10
 have b2 := b20
 have b3 := b30
 go_wp2_with fail
 refine (TK.out _ _ _).mono ?_
 rintro r y1 ⟨rfl, hb⟩
 have HY1 := Lib.hid (btr (bref W2) hb)
 have HZ1 := Lib.hid (OT.keep (OT.nil W2.heap.size W2) hb)
 clear hb
 go_wp2_with fail
 refine (TK.out _ _ _).mono ?_
 rintro r u1 ⟨rfl, hb⟩
 have HU1 := Lib.hid (btr HY1.out hb)
 have HK1 := Lib.hid (OT.keep HZ1.out hb)
 clear hb
 go_wp2_with (at_builtin; refine wpList_app_toks rfl (.tmp 102) (.tmp 106) rfl W2.heap.size (.slice none 0 0) [] rfl (OT.keep HK1.out (bal (bref _) _)) (some ⟨u1.heap.size, 0, none⟩) [EM.tk 5 wMax, EM.tk 4 [40]] 2 rfl (tok_new2 _ _ _ _ _ _) (fun h => by cases h) (by simp only [List.length_append, List.length_cons, List.length_nil]; omega) (bal HU1.out _).size ?_; intro v1 w1 ox bx; have HO1 := Lib.hid ox; have HB1 := Lib.hid ((bal HU1.out _).trans bx); have b0 := keepc HB1.out b00; have b1 := keepc HB1.out b10; have b2 := keepc HB1.out b20; have b3 := keepc HB1.out b30; have e0 := keepc HB1.out e00; have e1 := keepc HB1.out e10; have e2 := keepc HB1.out e20; have e3 := keepc HB1.out e30; have f0 := keepc HB1.out f00; have f1 := keepc HB1.out f10; have f2 := keepc HB1.out f20; have f3 := keepc HB1.out f30; clear ox bx)
 go_wp2_with fail
 refine (AT.out _ (btr HW2.out HB1.out)).mono ?_
 rintro r u2 ⟨ao2, c2, rfl, hc, hT, hb⟩
 have HU2 := Lib.hid (btr HB1.out hb)
 have HK2 := Lib.hid (OT.keep HO1.out hb)
 have HT2 := Lib.hid hT
 clear hb hT hc
 have b0 := keepc HU2.out b00
 have b1 := keepc HU2.out b10
 have b2 := keepc HU2.out b20
 have b3 := keepc HU2.out b30
 have e0 := keepc HU2.out e00
 have e1 := keepc HU2.out e10
 have e2 := keepc HU2.out e20
 have e3 := keepc HU2.out e30
 have f0 := keepc HU2.out f00
 have f1 := keepc HU2.out f10
 have f2 := keepc HU2.out f20
 have f3 := keepc HU2.out f30
 go_wp2_with (at_builtin; refine wpList_app_toks rfl (.tmp 108) (.tmp 113) rfl W2.heap.size v1 (([] ++ [EM.tk 5 wMax, EM.tk 4 [40]])) rfl HK2.out ao2 (wr 0 a) c2 rfl HT2.out (fun h => absurd h (tok_some HT2.out HPa.out)) (by simp only [List.length_append, List.length_cons, List.length_nil]; omega) HU2.out.size ?_; intro v2 w2 ox bx; have HO2 := Lib.hid ox; have HB2 := Lib.hid (HU2.out.trans bx); have b0 := keepc HB2.out b00; have b1 := keepc HB2.out b10; have b2 := keepc HB2.out b20; have b3 := keepc HB2.out b30; have e0 := keepc HB2.out e00; have e1 := keepc HB2.out e10; have e2 := keepc HB2.out e20; have e3 := keepc HB2.out e30; have f0 := keepc HB2.out f00; have f1 := keepc HB2.out f10; have f2 := keepc HB2.out f20; have f3 := keepc HB2.out f30; clear ox bx)
 go_wp2_with fail
 refine (TK.out _ _ _).mono ?_
 rintro r u3 ⟨rfl, hb⟩
 have HU3 := Lib.hid (btr HB2.out hb)
 have HK3 := Lib.hid (OT.keep HO2.out hb)
 clear hb
 have b0 := keepc HU3.out b00
 have b1 := keepc HU3.out b10
 have b2 := keepc HU3.out b20
 have b3 := keepc HU3.out b30
 have e0 := keepc HU3.out e00
 have e1 := keepc HU3.out e10
 have e2 := keepc HU3.out e20
 have e3 := keepc HU3.out e30
 have f0 := keepc HU3.out f00
 have f1 := keepc HU3.out f10
 have f2 := keepc HU3.out f20
 have f3 := keepc HU3.out f30
 go_wp2_with (at_builtin; refine wpList_app_toks rfl (.tmp 115) (.tmp 117) rfl W2.heap.size v2 ((([] ++ [EM.tk 5 wMax, EM.tk 4 [40]])) ++ (wr 0 a)) rfl (OT.keep HK3.out (bal (bref _) _)) (some ⟨u3.heap.size, 0, none⟩) [EM.tk 4 [44]] 1 rfl (tok_new _ _ _ _) (fun h => by cases h) (by simp only [List.length_append, List.length_cons, List.length_nil]; omega) (bal HU3.out _).size ?_; intro v3 w3 ox bx; have HO3 := Lib.hid ox; have HB3 := Lib.hid ((bal HU3.out _).trans bx); have b0 := keepc HB3.out b00; have b1 := keepc HB3.out b10; have b2 := keepc HB3.out b20; have b3 := keepc HB3.out b30; have e0 := keepc HB3.out e00; have e1 := keepc HB3.out e10; have e2 := keepc HB3.out e20; have e3 := keepc HB3.out e30; have f0 := keepc HB3.out f00; have f1 := keepc HB3.out f10; have f2 := keepc HB3.out f20; have f3 := keepc HB3.out f30; clear ox bx)
 go_wp2_with fail
 refine (BT.out _ (btr HW2.out HB3.out)).mono ?_
 rintro r u4 ⟨ao4, c4, rfl, hc, hT, hb⟩
 have HU4 := Lib.hid (btr HB3.out hb)
 have HK4 := Lib.hid (OT.keep HO3.out hb)
 have HT4 := Lib.hid hT
 clear hb hT hc
 have b0 := keepc HU4.out b00
 have b1 := keepc HU4.out b10
 have b2 := keepc HU4.out b20
 have b3 := keepc HU4.out b30
 have e0 := keepc HU4.out e00
 have e1 := keepc HU4.out e10
 have e2 := keepc HU4.out e20
 have e3 := keepc HU4.out e30
 have f0 := keepc HU4.out f00
 have f1 := keepc HU4.out f10
 have f2 := keepc HU4.out f20
 have f3 := keepc HU4.out f30
 go_wp2_with (at_builtin; refine wpList_app_toks rfl (.tmp 119) (.tmp 124) rfl W2.heap.size v3 (((([] ++ [EM.tk 5 wMax, EM.tk 4 [40]])) ++ (wr 0 a)) ++ [EM.tk 4 [44]]) rfl HK4.out ao4 (wr 0 b) c4 rfl HT4.out (fun h => absurd h (tok_some HT4.out HPb.out)) (by simp only [List.length_append, List.length_cons, List.length_nil]; omega) HU4.out.size ?_; intro v4 w4 ox bx; have HO4 := Lib.hid ox; have HB4 := Lib.hid (HU4.out.trans bx); have b0 := keepc HB4.out b00; have b1 := keepc HB4.out b10; have b2 := keepc HB4.out b20; have b3 := keepc HB4.out b30; have e0 := keepc HB4.out e00; have e1 := keepc HB4.out e10; have e2 := keepc HB4.out e20; have e3 := keepc HB4.out e30; have f0 := keepc HB4.out f00; have f1 := keepc HB4.out f10; have f2 := keepc HB4.out f20; have f3 := keepc HB4.out f30; clear ox bx)
 go_wp2_with fail
 refine (TK.out _ _ _).mono ?_
 rintro r u5 ⟨rfl, hb⟩
 have HU5 := Lib.hid (btr HB4.out hb)
 have HK5 := Lib.hid (OT.keep HO4.out hb)
 clear hb
 have b0 := keepc HU5.out b00
 have b1 := keepc HU5.out b10
 have b2 := keepc HU5.out b20
 have b3 := keepc HU5.out b30
 have e0 := keepc HU5.out e00
 have e1 := keepc HU5.out e10
 have e2 := keepc HU5.out e20
 have e3 := keepc HU5.out e30
 have f0 := keepc HU5.out f00
 have f1 := keepc HU5.out f10
 have f2 := keepc HU5.out f20
 have f3 := keepc HU5.out f30
 go_wp2_with (at_builtin; refine wpList_app_toks rfl (.tmp 126) (.tmp 128) rfl W2.heap.size v4 ((((([] ++ [EM.tk 5 wMax, EM.tk 4 [40]])) ++ (wr 0 a)) ++ [EM.tk 4 [44]]) ++ (wr 0 b)) rfl (OT.keep HK5.out (bal (bref _) _)) (some ⟨u5.heap.size, 0, none⟩) [EM.tk 4 [41]] 1 rfl (tok_new _ _ _ _) (fun h => by cases h) (by simp only [List.length_append, List.length_cons, List.length_nil]; omega) (bal HU5.out _).size ?_; intro v5 w5 ox bx; have HO5 := Lib.hid ox; have HB5 := Lib.hid ((bal HU5.out _).trans bx); have b0 := keepc HB5.out b00; have b1 := keepc HB5.out b10; have b2 := keepc HB5.out b20; have b3 := keepc HB5.out b30; have e0 := keepc HB5.out e00; have e1 := keepc HB5.out e10; have e2 := keepc HB5.out e20; have e3 := keepc HB5.out e30; have f0 := keepc HB5.out f00; have f1 := keepc HB5.out f10; have f2 := keepc HB5.out f20; have f3 := keepc HB5.out f30; clear ox bx)
 have hO := HO5.out
 rw [show (((((([] ++ [EM.tk 5 wMax, EM.tk 4 [40]])) ++ (wr 0 a)) ++ [EM.tk 4 [44]]) ++ (wr 0 b)) ++ [EM.tk 4 [41]]) = body (.mk 18 n s [a, b]) from by (rw [body, if_pos (by decide), ← wr_zero a, ← wr_zero b]; simp [word])] at hO
 obtain ⟨bo, d, rfl, hcd, hTd, _⟩ := hO.shape
 have HTd := Lib.hid hTd
 clear hO hTd
 go_wp2_with fail
 go_ret
 exact ⟨bo, d, rfl, hcd, HTd.out, btr hb2 HB5.out⟩
def il (a b c : Ex) : Nat → List Tok
 | 0 => []
 | 1 => EM.tk 5 wIf :: wr 0 a
 | 2 => EM.tk 5 wIf :: wr 0 a ++ EM.tk 5 wThen :: wr 0 b
 | _ => EM.tk 5 wIf :: wr 0 a ++ EM.tk 5 wThen :: wr 0 b ++ EM.tk 5 wElse :: wr 0 c
set_option maxRecDepth 100000 in
set_option maxHeartbeats 8000000 in
theorem wk_if (n : Int) (s : List UInt8) (a b d : Ex) (ia : WC a) (ib : WC b) (id : WC d) (so : Option Addr) (cap r : Nat) (z : Int) (w : World) (hz : z = (r : Int)) (hr8 : r ≤ 8) (hr : right (.mk 19 n s [a, b, d]) = true) (hs : siz (.mk 19 n s [a, b, d]) ≤ 100000) (h : ExprsAt so [a, b, d] w) (hrk : ¬ rk 19 < r) :
  Calls Tryz.prog 33 #[.agg #[.int .i64 19, .int .i64 n, .string (str s), .slice so 3 cap], .int .i64 z] w fun q w' => Wt q (body (.mk 19 n s [a, b, d])) w w' := by
 have hra := (right_parts hr).2 a (by simp)
 have hrb := (right_parts hr).2 b (by simp)
 have hrd := (right_parts hr).2 d (by simp)
 rw [siz_three] at hs
 have TK := Lib.hid (fun k X W => rtoken k X W)
 obtain ⟨ba, oa, so2, cap2, rfl, hba, d0, d1, d2, d3, hA, _⟩ := h.at 0 (by simp)
 obtain ⟨bb, ob, so3, cap3, e, hbb, q0, q1, q2, q3, hB, _⟩ := h.at 1 (by simp)
 cases e
 obtain ⟨bd, od, so4, cap4, e, hbd, p0, p1, p2, p3, hD, _⟩ := h.at 2 (by simp)
 cases e
 simp only [List.getD_cons_zero, List.getD_cons_succ, Nat.zero_mul, Nat.add_zero, Nat.one_mul] at d0 d1 d2 d3 hA q0 q1 q2 q3 hB p0 p1 p2 p3 hD
 have RK := Lib.hid (fun W => rrank 19 W)
 have e0' : ((rk 19 : Nat) : Int) = 0 := by decide
 rw [e0'] at RK
 have hzz : ¬ ((0 : Int) < z) := by { have : rk 19 = 0 := (by decide); omega }
 have hb2 : Below w.heap.size w (w.alloc (.cells #[.int .i64 19, .int .i64 n, .string (str s), .slice (some ⟨ba, oa, none⟩) 3 cap] 27)) := bal (bref w) _
 replace d0 := keepc hb2 d0
 replace d1 := keepc hb2 d1
 replace d2 := keepc hb2 d2
 replace d3 := keepc hb2 d3
 replace q0 := keepc hb2 q0
 replace q1 := keepc hb2 q1
 replace q2 := keepc hb2 q2
 replace q3 := keepc hb2 q3
 replace p0 := keepc hb2 p0
 replace p1 := keepc hb2 p1
 replace p2 := keepc hb2 p2
 replace p3 := keepc hb2 p3
 have hla := wr_len 0 a
 have hlb := wr_len 0 b
 have hld := wr_len 0 d
 have HPa := Lib.hid (wr_pos hra 0)
 have HPb := Lib.hid (wr_pos hrb 0)
 have HPd := Lib.hid (wr_pos hrd 0)
 have AT := Lib.hid (fun W (hW : Below w.heap.size w W) => ia so2 cap2 0 0 W rfl (by omega) hra (by omega) (hA.keep hW))
 have BT := Lib.hid (fun W (hW : Below w.heap.size w W) => ib so3 cap3 0 0 W rfl (by omega) hrb (by omega) (hB.keep hW))
 have DT := Lib.hid (fun W (hW : Below w.heap.size w W) => id so4 cap4 0 0 W rfl (by omega) hrd (by omega) (hD.keep hW))
 clear hA hB hD hz hr8 hrk hr h e0'
 go_enter Tryz.func33, Tryz.ntmps33
 go_wp2_with fail
 obtain ⟨W2, hW2⟩ : ∃ W2, (w.alloc (.cells #[.int .i64 19, .int .i64 n, .string (str s), .slice (some ⟨ba, oa, none⟩) 3 cap] 27)) = W2 := ⟨_, rfl⟩
 rw [hW2] at hb2 d0 d1 d2 d3 q0 q1 q2 q3 p0 p1 p2 p3
 have b00 : W2.cell? ⟨w.heap.size, 0, none⟩ = some (.int .i64 19) := by rw [← hW2]; simp [go_sem]
 have b10 : W2.cell? ⟨w.heap.size, 1, none⟩ = some (.int .i64 n) := by rw [← hW2]; simp [go_sem]
 have b20 : W2.cell? ⟨w.heap.size, 2, none⟩ = some (.string (str s)) := by rw [← hW2]; simp [go_sem]
 have b30 : W2.cell? ⟨w.heap.size, 3, none⟩ = some (.slice (some ⟨ba, oa, none⟩) 3 cap) := by rw [← hW2]; simp [go_sem]
 rw [hW2]
 clear hW2
 have HW2 := Lib.hid hb2
 clear hb2
 have hb2 := HW2.out
 have e00 := d0
 have e10 := d1
 have e20 := d2
 have e30 := d3
 have f00 := q0
 have f10 := q1
 have f20 := q2
 have f30 := q3
 clear d0 d1 d2 d3 q0 q1 q2 q3
 have g00 := p0
 have g10 := p1
 have g20 := p2
 have g30 := p3
 clear p0 p1 p2 p3
 refine (RK.out _).mono ?_
 rintro r w0 ⟨rfl, rfl⟩
 have b0 := b00
 have b1 := b10
 have b2 := b20
 have b3 := b30
 go_wp2_with fail
 obtain ⟨W3, hW3⟩ : ∃ W3, W2.alloc (.cells #[.string ⟨#[105, 102]⟩, .string ⟨#[116, 104, 101, 110]⟩, .string ⟨#[101, 108, 115, 101]⟩] 9) = W3 := ⟨_, rfl⟩
 have hb3 : Below W2.heap.size W2 W3 := by rw [← hW3]; exact bal (bref _) _
 have x00 : W3.cell? ⟨W2.heap.size, 0, none⟩ = some (.string (str wIf)) := by rw [← hW3]; simp; rfl
 have x10 : W3.cell? ⟨W2.heap.size, 1, none⟩ = some (.string (str wThen)) := by rw [← hW3]; simp; rfl
 have x20 : W3.cell? ⟨W2.heap.size, 2, none⟩ = some (.string (str wElse)) := by rw [← hW3]; simp; rfl
 rw [hW3]
 clear hW3 b0 b1 b2 b3
 replace b00 := keepc hb3 b00
 replace b10 := keepc hb3 b10
 replace b20 := keepc hb3 b20
 replace b30 := keepc hb3 b30
 replace e00 := keepc hb3 e00
 replace e10 := keepc hb3 e10
 replace e20 := keepc hb3 e20
 replace e30 := keepc hb3 e30
 replace f00 := keepc hb3 f00
 replace f10 := keepc hb3 f10
 replace f20 := keepc hb3 f20
 replace f30 := keepc hb3 f30
 replace g00 := keepc hb3 g00
 replace g10 := keepc hb3 g10
 replace g20 := keepc hb3 g20
 replace g30 := keepc hb3 g30
 have HW3 := Lib.hid (btr HW2.out hb3)
 clear hb3
 obtain ⟨blk, hblk⟩ : ∃ blk, W2.heap.size = blk := ⟨_, rfl⟩
 rw [hblk] at x00 x10 x20
 simp only [hblk]
 clear hblk
 go_loopw [5, 8] (fun x i wr => ∃ (k : Nat) (v : Value), k ≤ 3 ∧ v = x ∧ i = .int .i64 k ∧ OT W3.heap.size v (il a b d k) wr ∧ Below W3.heap.size W3 wr) (fun _ i _ => 3 - (RowKit.intOf i).toNat)
 case atStart => exact ⟨0, _, by omega, rfl, rfl, OT.nil _ _, bref _⟩
 case round =>
  obtain ⟨k, v, hk, rfl, rfl, hO, hB⟩ := hrel
  have HOr := Lib.hid hO
  have HBr := Lib.hid hB
  clear hO hB
  have b0 := keepc HBr.out b00
  have b1 := keepc HBr.out b10
  have b2 := keepc HBr.out b20
  have b3 := keepc HBr.out b30
  have e0 := keepc HBr.out e00
  have e1 := keepc HBr.out e10
  have e2 := keepc HBr.out e20
  have e3 := keepc HBr.out e30
  have f0 := keepc HBr.out f00
  have f1 := keepc HBr.out f10
  have f2 := keepc HBr.out f20
  have f3 := keepc HBr.out f30
  have g0 := keepc HBr.out g00
  have g1 := keepc HBr.out g10
  have g2 := keepc HBr.out g20
  have g3 := keepc HBr.out g30
  have x0 := keepc HBr.out x00
  have x1 := keepc HBr.out x10
  have x2 := keepc HBr.out x20
  have hk4 : k = 0 ∨ k = 1 ∨ k = 2 ∨ k = 3 := by omega
  clear hk
  rcases hk4 with rfl | rfl | rfl | rfl
  ·go_wp2_with fail
   refine (TK.out _ _ _).mono ?_
   rintro r u1 ⟨rfl, hb⟩
   have HU1 := Lib.hid (btr HBr.out hb)
   have HK1 := Lib.hid (OT.keep HOr.out hb)
   clear hb
   have b0 := keepc HU1.out b00
   have b1 := keepc HU1.out b10
   have b2 := keepc HU1.out b20
   have b3 := keepc HU1.out b30
   have e0 := keepc HU1.out e00
   have e1 := keepc HU1.out e10
   have e2 := keepc HU1.out e20
   have e3 := keepc HU1.out e30
   have f0 := keepc HU1.out f00
   have f1 := keepc HU1.out f10
   have f2 := keepc HU1.out f20
   have f3 := keepc HU1.out f30
   have g0 := keepc HU1.out g00
   have g1 := keepc HU1.out g10
   have g2 := keepc HU1.out g20
   have g3 := keepc HU1.out g30
   have x0 := keepc HU1.out x00
   have x1 := keepc HU1.out x10
   have x2 := keepc HU1.out x20
   go_wp2_with (at_builtin; refine wpList_app_toks rfl (.tmp 74) (.tmp 80) rfl W3.heap.size v (il a b d 0) rfl (OT.keep HK1.out (bal (bref _) _)) (some ⟨u1.heap.size, 0, none⟩) [EM.tk 5 wIf] 1 rfl (tok_new _ _ _ _) (fun h => by cases h) (by simp only [il, List.length_append, List.length_cons, List.length_nil]; omega) (bal HU1.out _).size ?_; intro v1 w1 ox bx; have HO1 := Lib.hid ox; have HB1 := Lib.hid ((bal HU1.out _).trans bx); have b0 := keepc HB1.out b00; have b1 := keepc HB1.out b10; have b2 := keepc HB1.out b20; have b3 := keepc HB1.out b30; have e0 := keepc HB1.out e00; have e1 := keepc HB1.out e10; have e2 := keepc HB1.out e20; have e3 := keepc HB1.out e30; have f0 := keepc HB1.out f00; have f1 := keepc HB1.out f10; have f2 := keepc HB1.out f20; have f3 := keepc HB1.out f30; have g0 := keepc HB1.out g00; have g1 := keepc HB1.out g10; have g2 := keepc HB1.out g20; have g3 := keepc HB1.out g30; have x0 := keepc HB1.out x00; have x1 := keepc HB1.out x10; have x2 := keepc HB1.out x20; clear ox bx)
   go_wp2_with fail
   refine (AT.out _ (btr HW3.out HB1.out)).mono ?_
   rintro r u2 ⟨ao2, c2, rfl, hc, hT, hb⟩
   have HU2 := Lib.hid (btr HB1.out hb)
   have HK2 := Lib.hid (OT.keep HO1.out hb)
   have HT2 := Lib.hid hT
   clear hb hT hc
   have b0 := keepc HU2.out b00
   have b1 := keepc HU2.out b10
   have b2 := keepc HU2.out b20
   have b3 := keepc HU2.out b30
   have e0 := keepc HU2.out e00
   have e1 := keepc HU2.out e10
   have e2 := keepc HU2.out e20
   have e3 := keepc HU2.out e30
   have f0 := keepc HU2.out f00
   have f1 := keepc HU2.out f10
   have f2 := keepc HU2.out f20
   have f3 := keepc HU2.out f30
   have g0 := keepc HU2.out g00
   have g1 := keepc HU2.out g10
   have g2 := keepc HU2.out g20
   have g3 := keepc HU2.out g30
   have x0 := keepc HU2.out x00
   have x1 := keepc HU2.out x10
   have x2 := keepc HU2.out x20
   go_wp2_with (at_builtin; refine wpList_app_toks rfl (.tmp 82) (.tmp 88) rfl W3.heap.size v1 ((il a b d 0) ++ [EM.tk 5 wIf]) rfl HK2.out ao2 (EM.wr 0 a) c2 rfl HT2.out (fun h => absurd h (tok_some HT2.out HPa.out)) (by simp only [il, List.length_append, List.length_cons, List.length_nil]; omega) HU2.out.size ?_; intro v2 w2 ox bx; have HO2 := Lib.hid ox; have HB2 := Lib.hid (HU2.out.trans bx); have b0 := keepc HB2.out b00; have b1 := keepc HB2.out b10; have b2 := keepc HB2.out b20; have b3 := keepc HB2.out b30; have e0 := keepc HB2.out e00; have e1 := keepc HB2.out e10; have e2 := keepc HB2.out e20; have e3 := keepc HB2.out e30; have f0 := keepc HB2.out f00; have f1 := keepc HB2.out f10; have f2 := keepc HB2.out f20; have f3 := keepc HB2.out f30; have g0 := keepc HB2.out g00; have g1 := keepc HB2.out g10; have g2 := keepc HB2.out g20; have g3 := keepc HB2.out g30; have x0 := keepc HB2.out x00; have x1 := keepc HB2.out x10; have x2 := keepc HB2.out x20; clear ox bx)
   go_roundw
   case rel => exact ⟨1, _, by omega, rfl, by go_num, (by have hq := HO2.out; rw [show (((il a b d 0) ++ [EM.tk 5 wIf]) ++ (EM.wr 0 a)) = il a b d 1 by simp [il]] at hq; exact hq), HB2.out⟩
   case measure => simp [RowKit.intOf]
  ·go_wp2_with fail
   refine (TK.out _ _ _).mono ?_
   rintro r u1 ⟨rfl, hb⟩
   have HU1 := Lib.hid (btr HBr.out hb)
   have HK1 := Lib.hid (OT.keep HOr.out hb)
   clear hb
   have b0 := keepc HU1.out b00
   have b1 := keepc HU1.out b10
   have b2 := keepc HU1.out b20
   have b3 := keepc HU1.out b30
   have e0 := keepc HU1.out e00
   have e1 := keepc HU1.out e10
   have e2 := keepc HU1.out e20
   have e3 := keepc HU1.out e30
   have f0 := keepc HU1.out f00
   have f1 := keepc HU1.out f10
   have f2 := keepc HU1.out f20
   have f3 := keepc HU1.out f30
   have g0 := keepc HU1.out g00
   have g1 := keepc HU1.out g10
   have g2 := keepc HU1.out g20
   have g3 := keepc HU1.out g30
   have x0 := keepc HU1.out x00
   have x1 := keepc HU1.out x10
   have x2 := keepc HU1.out x20
   go_wp2_with (at_builtin; refine wpList_app_toks rfl (.tmp 74) (.tmp 80) rfl W3.heap.size v (il a b d 1) rfl (OT.keep HK1.out (bal (bref _) _)) (some ⟨u1.heap.size, 0, none⟩) [EM.tk 5 wThen] 1 rfl (tok_new _ _ _ _) (fun h => by cases h) (by simp only [il, List.length_append, List.length_cons, List.length_nil]; omega) (bal HU1.out _).size ?_; intro v1 w1 ox bx; have HO1 := Lib.hid ox; have HB1 := Lib.hid ((bal HU1.out _).trans bx); have b0 := keepc HB1.out b00; have b1 := keepc HB1.out b10; have b2 := keepc HB1.out b20; have b3 := keepc HB1.out b30; have e0 := keepc HB1.out e00; have e1 := keepc HB1.out e10; have e2 := keepc HB1.out e20; have e3 := keepc HB1.out e30; have f0 := keepc HB1.out f00; have f1 := keepc HB1.out f10; have f2 := keepc HB1.out f20; have f3 := keepc HB1.out f30; have g0 := keepc HB1.out g00; have g1 := keepc HB1.out g10; have g2 := keepc HB1.out g20; have g3 := keepc HB1.out g30; have x0 := keepc HB1.out x00; have x1 := keepc HB1.out x10; have x2 := keepc HB1.out x20; clear ox bx)
   go_wp2_with fail
   refine (BT.out _ (btr HW3.out HB1.out)).mono ?_
   rintro r u2 ⟨ao2, c2, rfl, hc, hT, hb⟩
   have HU2 := Lib.hid (btr HB1.out hb)
   have HK2 := Lib.hid (OT.keep HO1.out hb)
   have HT2 := Lib.hid hT
   clear hb hT hc
   have b0 := keepc HU2.out b00
   have b1 := keepc HU2.out b10
   have b2 := keepc HU2.out b20
   have b3 := keepc HU2.out b30
   have e0 := keepc HU2.out e00
   have e1 := keepc HU2.out e10
   have e2 := keepc HU2.out e20
   have e3 := keepc HU2.out e30
   have f0 := keepc HU2.out f00
   have f1 := keepc HU2.out f10
   have f2 := keepc HU2.out f20
   have f3 := keepc HU2.out f30
   have g0 := keepc HU2.out g00
   have g1 := keepc HU2.out g10
   have g2 := keepc HU2.out g20
   have g3 := keepc HU2.out g30
   have x0 := keepc HU2.out x00
   have x1 := keepc HU2.out x10
   have x2 := keepc HU2.out x20
   go_wp2_with (at_builtin; refine wpList_app_toks rfl (.tmp 82) (.tmp 88) rfl W3.heap.size v1 ((il a b d 1) ++ [EM.tk 5 wThen]) rfl HK2.out ao2 (EM.wr 0 b) c2 rfl HT2.out (fun h => absurd h (tok_some HT2.out HPb.out)) (by simp only [il, List.length_append, List.length_cons, List.length_nil]; omega) HU2.out.size ?_; intro v2 w2 ox bx; have HO2 := Lib.hid ox; have HB2 := Lib.hid (HU2.out.trans bx); have b0 := keepc HB2.out b00; have b1 := keepc HB2.out b10; have b2 := keepc HB2.out b20; have b3 := keepc HB2.out b30; have e0 := keepc HB2.out e00; have e1 := keepc HB2.out e10; have e2 := keepc HB2.out e20; have e3 := keepc HB2.out e30; have f0 := keepc HB2.out f00; have f1 := keepc HB2.out f10; have f2 := keepc HB2.out f20; have f3 := keepc HB2.out f30; have g0 := keepc HB2.out g00; have g1 := keepc HB2.out g10; have g2 := keepc HB2.out g20; have g3 := keepc HB2.out g30; have x0 := keepc HB2.out x00; have x1 := keepc HB2.out x10; have x2 := keepc HB2.out x20; clear ox bx)
   go_roundw
   case rel => exact ⟨2, _, by omega, rfl, by go_num, (by have hq := HO2.out; rw [show (((il a b d 1) ++ [EM.tk 5 wThen]) ++ (EM.wr 0 b)) = il a b d 2 by simp [il]] at hq; exact hq), HB2.out⟩
   case measure => simp [RowKit.intOf]
  ·go_wp2_with fail
   refine (TK.out _ _ _).mono ?_
   rintro r u1 ⟨rfl, hb⟩
   have HU1 := Lib.hid (btr HBr.out hb)
   have HK1 := Lib.hid (OT.keep HOr.out hb)
   clear hb
   have b0 := keepc HU1.out b00
   have b1 := keepc HU1.out b10
   have b2 := keepc HU1.out b20
   have b3 := keepc HU1.out b30
   have e0 := keepc HU1.out e00
   have e1 := keepc HU1.out e10
   have e2 := keepc HU1.out e20
   have e3 := keepc HU1.out e30
   have f0 := keepc HU1.out f00
   have f1 := keepc HU1.out f10
   have f2 := keepc HU1.out f20
   have f3 := keepc HU1.out f30
   have g0 := keepc HU1.out g00
   have g1 := keepc HU1.out g10
   have g2 := keepc HU1.out g20
   have g3 := keepc HU1.out g30
   have x0 := keepc HU1.out x00
   have x1 := keepc HU1.out x10
   have x2 := keepc HU1.out x20
   go_wp2_with (at_builtin; refine wpList_app_toks rfl (.tmp 74) (.tmp 80) rfl W3.heap.size v (il a b d 2) rfl (OT.keep HK1.out (bal (bref _) _)) (some ⟨u1.heap.size, 0, none⟩) [EM.tk 5 wElse] 1 rfl (tok_new _ _ _ _) (fun h => by cases h) (by simp only [il, List.length_append, List.length_cons, List.length_nil]; omega) (bal HU1.out _).size ?_; intro v1 w1 ox bx; have HO1 := Lib.hid ox; have HB1 := Lib.hid ((bal HU1.out _).trans bx); have b0 := keepc HB1.out b00; have b1 := keepc HB1.out b10; have b2 := keepc HB1.out b20; have b3 := keepc HB1.out b30; have e0 := keepc HB1.out e00; have e1 := keepc HB1.out e10; have e2 := keepc HB1.out e20; have e3 := keepc HB1.out e30; have f0 := keepc HB1.out f00; have f1 := keepc HB1.out f10; have f2 := keepc HB1.out f20; have f3 := keepc HB1.out f30; have g0 := keepc HB1.out g00; have g1 := keepc HB1.out g10; have g2 := keepc HB1.out g20; have g3 := keepc HB1.out g30; have x0 := keepc HB1.out x00; have x1 := keepc HB1.out x10; have x2 := keepc HB1.out x20; clear ox bx)
   go_wp2_with fail
   refine (DT.out _ (btr HW3.out HB1.out)).mono ?_
   rintro r u2 ⟨ao2, c2, rfl, hc, hT, hb⟩
   have HU2 := Lib.hid (btr HB1.out hb)
   have HK2 := Lib.hid (OT.keep HO1.out hb)
   have HT2 := Lib.hid hT
   clear hb hT hc
   have b0 := keepc HU2.out b00
   have b1 := keepc HU2.out b10
   have b2 := keepc HU2.out b20
   have b3 := keepc HU2.out b30
   have e0 := keepc HU2.out e00
   have e1 := keepc HU2.out e10
   have e2 := keepc HU2.out e20
   have e3 := keepc HU2.out e30
   have f0 := keepc HU2.out f00
   have f1 := keepc HU2.out f10
   have f2 := keepc HU2.out f20
   have f3 := keepc HU2.out f30
   have g0 := keepc HU2.out g00
   have g1 := keepc HU2.out g10
   have g2 := keepc HU2.out g20
   have g3 := keepc HU2.out g30
   have x0 := keepc HU2.out x00
   have x1 := keepc HU2.out x10
   have x2 := keepc HU2.out x20
   go_wp2_with (at_builtin; refine wpList_app_toks rfl (.tmp 82) (.tmp 88) rfl W3.heap.size v1 ((il a b d 2) ++ [EM.tk 5 wElse]) rfl HK2.out ao2 (EM.wr 0 d) c2 rfl HT2.out (fun h => absurd h (tok_some HT2.out HPd.out)) (by simp only [il, List.length_append, List.length_cons, List.length_nil]; omega) HU2.out.size ?_; intro v2 w2 ox bx; have HO2 := Lib.hid ox; have HB2 := Lib.hid (HU2.out.trans bx); have b0 := keepc HB2.out b00; have b1 := keepc HB2.out b10; have b2 := keepc HB2.out b20; have b3 := keepc HB2.out b30; have e0 := keepc HB2.out e00; have e1 := keepc HB2.out e10; have e2 := keepc HB2.out e20; have e3 := keepc HB2.out e30; have f0 := keepc HB2.out f00; have f1 := keepc HB2.out f10; have f2 := keepc HB2.out f20; have f3 := keepc HB2.out f30; have g0 := keepc HB2.out g00; have g1 := keepc HB2.out g10; have g2 := keepc HB2.out g20; have g3 := keepc HB2.out g30; have x0 := keepc HB2.out x00; have x1 := keepc HB2.out x10; have x2 := keepc HB2.out x20; clear ox bx)
   go_roundw
   case rel => exact ⟨3, _, by omega, rfl, by go_num, (by have hq := HO2.out; rw [show (((il a b d 2) ++ [EM.tk 5 wElse]) ++ (EM.wr 0 d)) = il a b d 3 by simp [il]] at hq; exact hq), HB2.out⟩
   case measure => simp [RowKit.intOf]
  ·have hO := HOr.out
   rw [show il a b d 3 = body (.mk 19 n s [a, b, d]) by rw [body, ← wr_zero a, ← wr_zero b, ← wr_zero d]; simp [il]] at hO
   obtain ⟨bo, dd, rfl, hcd, hTd, _⟩ := hO.shape
   have HTd := Lib.hid hTd
   clear hO hTd
   go_wp2_with fail
   go_ret
   exact ⟨bo, dd, rfl, hcd, HTd.out, btr HW3.out HBr.out⟩
theorem wkey (o n : Int) (s : List UInt8) (l : List Ex) (ih : ∀ x ∈ l, WC x) (so : Option Addr) (cap r : Nat) (z : Int) (w : World) (hz : z = (r : Int)) (hr8 : r ≤ 8) (hr : right (.mk o n s l) = true) (hs : siz (.mk o n s l) ≤ 100000) (h : ExprsAt so l w) (hrk : ¬ rk o < r) :
  Calls Tryz.prog 33 #[.agg #[.int .i64 o, .int .i64 n, .string (str s), .slice so l.length cap], .int .i64 z] w fun q w' => Wt q (body (.mk o n s l)) w w' := by
 have h1 := (fmd_parts (right_parts hr).1).1
 match l, h1, ih, hr, hs, h with
 | [], h1, ih, hr, hs, h => exact wk_leaf o n s so cap r z w hz hr8 hr hrk
 | [a], h1, ih, hr, hs, h =>
  rcases opn_one (o := o) (by simpa using h1.symm) with rfl | rfl
  ·exact wk_one9 n s a (ih a (by simp)) so cap r z w hz hr8 hr hs h hrk
  ·exact wk_one16 n s a (ih a (by simp)) so cap r z w hz hr8 hr hs h hrk
 | [a, b], h1, ih, hr, hs, h =>
  rcases opn_two (o := o) (by simpa using h1.symm) with ho | rfl | rfl
  ·exact wk_two o n s a b (ih a (by simp)) (ih b (by simp)) so cap r z w hz hr8 ho hr hs h hrk
  ·exact wk_pair17 n s a b (ih a (by simp)) (ih b (by simp)) so cap r z w hz hr8 hr hs h hrk
  ·exact wk_pair18 n s a b (ih a (by simp)) (ih b (by simp)) so cap r z w hz hr8 hr hs h hrk
 | [a, b, d], h1, ih, hr, hs, h =>
  obtain rfl := opn_three (o := o) (by simpa using h1.symm)
  exact wk_if n s a b d (ih a (by simp)) (ih b (by simp)) (ih d (by simp)) so cap r z w hz hr8 hr hs h hrk
 | _ :: _ :: _ :: _ :: _, h1, ih, hr, hs, h =>
  have := opn_le o
  simp at h1
  omega
set_option maxRecDepth 100000 in
set_option maxHeartbeats 8000000 in
theorem rwritten : ∀ e : Ex, WC e := by
 refine ex_ind _ fun e ih => ?_
 obtain ⟨o, n, s, l⟩ := e
 intro so cap r z w hz hr8 hr hs h
 simp only [Ex.op, Ex.n, Ex.s, Ex.args] at h ⊢
 by_cases hrk : rk o < r
 rotate_left
 ·have hw : wr r (.mk o n s l) = body (.mk o n s l) := by unfold wr; rw [show decide (rk (Ex.mk o n s l).op < r) = false from decide_eq_false hrk]; rfl
  rw [hw]
  exact wkey o n s l (fun x hx => ih x hx) so cap r z w hz hr8 hr hs h hrk
 ·have hw : wr r (.mk o n s l) = EM.tk 4 [40] :: (body (.mk o n s l) ++ [EM.tk 4 [41]]) := by unfold wr; rw [show decide (rk (Ex.mk o n s l).op < r) = true from decide_eq_true hrk]; rfl
  rw [hw]
  have AT := Lib.hid (fun W (hW : Below w.heap.size w W) => wkey o n s l (fun x hx => ih x hx) so cap 0 0 W rfl (by omega) hr hs (h.keep hW) (by omega))
  have hla := body_len (.mk o n s l)
  have HPa := Lib.hid (body_pos hr)
  have TK := Lib.hid (fun k X W => rtoken k X W)
  have RK := Lib.hid (fun W => rrank o W)
  have hb2 : Below w.heap.size w (w.alloc (.cells #[.int .i64 o, .int .i64 n, .string (str s), .slice so l.length cap] 27)) := bal (bref w) _
  obtain ⟨B, hB⟩ : ∃ B, body (.mk o n s l) = B := ⟨_, rfl⟩
  rw [hB] at AT hla HPa
  rw [hB]
  obtain ⟨M, hM⟩ : ∃ M, rk o = M := ⟨_, rfl⟩
  rw [hM] at RK hrk
  have hzz : ((M : Int) < z) := by omega
  obtain ⟨m, hm⟩ : ∃ m, l.length = m := ⟨_, rfl⟩
  rw [hm] at AT hb2 ⊢
  have hlB : B.length ≤ 1000000 := by omega
  clear hz hr8 hr h hw hB hM hrk hm hs ih hla
  go_enter Tryz.func33, Tryz.ntmps33
  go_wp2_with fail
  obtain ⟨W2, hW2⟩ : ∃ W2, (w.alloc (.cells #[.int .i64 o, .int .i64 n, .string (str s), .slice so m cap] 27)) = W2 := ⟨_, rfl⟩
  rw [hW2] at hb2
  have b00 : W2.cell? ⟨w.heap.size, 0, none⟩ = some (.int .i64 o) := by rw [← hW2]; simp [go_sem]
  have b10 : W2.cell? ⟨w.heap.size, 1, none⟩ = some (.int .i64 n) := by rw [← hW2]; simp [go_sem]
  have b20 : W2.cell? ⟨w.heap.size, 2, none⟩ = some (.string (str s)) := by rw [← hW2]; simp [go_sem]
  have b30 : W2.cell? ⟨w.heap.size, 3, none⟩ = some (.slice so m cap) := by rw [← hW2]; simp [go_sem]
  rw [hW2]
  clear hW2
  have HW2 := Lib.hid hb2
  clear hb2
  have hb2 := HW2.out
  refine (RK.out _).mono ?_
  rintro r w0 ⟨rfl, rfl⟩
  have b0 := b00
  have b1 := b10
  have b2 := b20
  have b3 := b30
  go_wp2_with fail
  refine (TK.out _ _ _).mono ?_
  rintro r u1 ⟨rfl, hb⟩
  have HU1 := Lib.hid (btr (bref W2) hb)
  have HK1 := Lib.hid (OT.keep (OT.nil W2.heap.size W2) hb)
  clear hb
  have b0 := keepc HU1.out b00
  have b1 := keepc HU1.out b10
  have b2 := keepc HU1.out b20
  have b3 := keepc HU1.out b30
  go_wp2_with (at_builtin; refine wpList_app_toks rfl (.tmp 17) (.tmp 19) rfl W2.heap.size (.slice none 0 0) [] rfl (OT.keep HK1.out (bal (bref _) _)) (some ⟨u1.heap.size, 0, none⟩) [EM.tk 4 [40]] 1 rfl (tok_new _ _ _ _) (fun h => by cases h) (by simp only [List.length_append, List.length_cons, List.length_nil]; omega) (bal HU1.out _).size ?_; intro v1 w1 ox bx; have HO1 := Lib.hid ox; have HB1 := Lib.hid ((bal HU1.out _).trans bx); have b0 := keepc HB1.out b00; have b1 := keepc HB1.out b10; have b2 := keepc HB1.out b20; have b3 := keepc HB1.out b30; clear ox bx)
  go_wp2_with fail
  refine (AT.out _ (btr HW2.out HB1.out)).mono ?_
  rintro r u2 ⟨ao2, c2, rfl, hc, hT, hb⟩
  have HU2 := Lib.hid (btr HB1.out hb)
  have HK2 := Lib.hid (OT.keep HO1.out hb)
  have HT2 := Lib.hid hT
  clear hb hT hc
  have b0 := keepc HU2.out b00
  have b1 := keepc HU2.out b10
  have b2 := keepc HU2.out b20
  have b3 := keepc HU2.out b30
  go_wp2_with (at_builtin; refine wpList_app_toks rfl (.tmp 21) (.tmp 23) rfl W2.heap.size v1 (([] ++ [EM.tk 4 [40]])) rfl HK2.out ao2 B c2 rfl HT2.out (fun h => absurd h (tok_some HT2.out HPa.out)) (by simp only [List.length_append, List.length_cons, List.length_nil]; omega) HU2.out.size ?_; intro v2 w2 ox bx; have HO2 := Lib.hid ox; have HB2 := Lib.hid (HU2.out.trans bx); have b0 := keepc HB2.out b00; have b1 := keepc HB2.out b10; have b2 := keepc HB2.out b20; have b3 := keepc HB2.out b30; clear ox bx)
  go_wp2_with fail
  refine (TK.out _ _ _).mono ?_
  rintro r u3 ⟨rfl, hb⟩
  have HU3 := Lib.hid (btr HB2.out hb)
  have HK3 := Lib.hid (OT.keep HO2.out hb)
  clear hb
  have b0 := keepc HU3.out b00
  have b1 := keepc HU3.out b10
  have b2 := keepc HU3.out b20
  have b3 := keepc HU3.out b30
  go_wp2_with (at_builtin; refine wpList_app_toks rfl (.tmp 25) (.tmp 27) rfl W2.heap.size v2 ((([] ++ [EM.tk 4 [40]])) ++ B) rfl (OT.keep HK3.out (bal (bref _) _)) (some ⟨u3.heap.size, 0, none⟩) [EM.tk 4 [41]] 1 rfl (tok_new _ _ _ _) (fun h => by cases h) (by simp only [List.length_append, List.length_cons, List.length_nil]; omega) (bal HU3.out _).size ?_; intro v3 w3 ox bx; have HO3 := Lib.hid ox; have HB3 := Lib.hid ((bal HU3.out _).trans bx); have b0 := keepc HB3.out b00; have b1 := keepc HB3.out b10; have b2 := keepc HB3.out b20; have b3 := keepc HB3.out b30; clear ox bx)
  have hO := HO3.out
  rw [show (((([] ++ [EM.tk 4 [40]])) ++ B) ++ [EM.tk 4 [41]]) = EM.tk 4 [40] :: (B ++ [EM.tk 4 [41]]) from by simp] at hO
  obtain ⟨bo, d, rfl, hcd, hTd, _⟩ := hO.shape
  have HTd := Lib.hid hTd
  clear hO hTd
  go_wp2_with fail
  go_ret
  exact ⟨bo, d, rfl, hcd, HTd.out, btr hb2 HB3.out⟩
end Go.Proofs.YtplkphihmfhciaaGreatDoor
