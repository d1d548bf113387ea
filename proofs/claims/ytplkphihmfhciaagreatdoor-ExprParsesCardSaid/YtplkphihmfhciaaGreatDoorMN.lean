/-
  Merged: Expressions: the contract of the document's own parse. Expressions: the document's own parse at a binary rank, at every rank.
-/
import Derived.Test.YtplkphihmfhciaaGreatDoorHF
/- Expressions: the contract of the document's own parse. -/
namespace Go.Proofs.YtplkphihmfhciaaGreatDoor
open Go Go.RowKit Go.Lib Go.Shelf WM TM EM

theorem Ag.xv {b n : Nat} {so : Option Addr} {l : List Ex} {U W : World} (h : Ag b U W) (hx : Xv n (some b) so l W) : Xv n (some b) so l U := by
 intro W' hs hk
 rw [h.size] at hs hk
 exact hx W' hs fun q hq hl ho => (hk q hq hl ho).trans (h.same q (fun e => ho (by rw [e])))
theorem Ag.zx {b b0 : Nat} {U W : World} (h : Ag b U W) (hz : Zx b0 W) (hne : b0 ≠ b) : Zx b0 U := hz.blk (h.same b0 hne)
theorem bin_len {r : Nat} {l : List Tok} {k : Nat} (h : bin r (l.drop k) ≠ 0) : k < l.length := by
 rcases Nat.lt_or_ge k l.length with c | c
 ·exact c
 ·exfalso
  apply h
  rw [List.drop_eq_nil_of_le c]
  unfold bin
  rw [if_neg (fun x => x.1 rfl)]
theorem e_not {l m : List Tok} {e : Ex} {kk : Nat} (h : isT 5 wNot l = true) (h1 : E 3 l.tail (.ok e kk m)) : E 3 l (.ok (.mk 16 0 [] [e]) 3 m) := E.not (F.not (by omega) h h1)
theorem e_not_bad {l m : List Tok} (h : isT 5 wNot l = true) (h1 : E 3 l.tail (.bad m)) : E 3 l (.bad m) := E.bad (F.not_bad (by omega) h h1)
theorem e_neg {l m : List Tok} {e : Ex} {kk : Nat} (h : isT 4 [45] l = true) (h1 : E 7 l.tail (.ok e kk m)) : E 7 l (.ok (.mk 9 0 [] [e]) 7 m) := E.seven (F.neg h h1)
theorem e_neg_bad {l m : List Tok} (h : isT 4 [45] l = true) (h1 : E 7 l.tail (.bad m)) : E 7 l (.bad m) := E.bad (F.neg_bad h h1)
theorem un_not {l : List Tok} {o : Out} (h : isT 5 wNot l = true) (h1 : E 3 l.tail o) : E 3 l (un 16 3 o) := by
 cases o with
 | ok e kk m => exact e_not h h1
 | bad m => exact e_not_bad h h1
theorem un_neg {l : List Tok} {o : Out} (h : isT 4 [45] l = true) (h1 : E 7 l.tail o) : E 7 l (un 9 7 o) := by
 cases o with
 | ok e kk m => exact e_neg h h1
 | bad m => exact e_neg_bad h h1
set_option maxRecDepth 100000 in
set_option maxHeartbeats 8000000 in
theorem rp_if (wb : World) (ao : Option Addr) (c : Nat) (l : List Tok) (D : Dc wb ao l) (k : Nat) (w : World) (hk : k ≤ l.length) (hW : Below wb.heap.size wb w) (h0 : isT 5 wIf (l.drop k) = true) (ih : ∀ k2, k < k2 → k2 ≤ l.length → PC wb ao c l k2 0) :
  Calls Tryz.prog 30 #[.slice ao l.length c, .int .i64 (k : Int), .int .i64 0] w fun q w' => ∃ o, ED 0 (l.drop k) o ∧ RD l w o q w' := by
 have HW := Lib.hid hW
 have hlen := D.len
 have IS := Lib.hid (fun kd x W hW => ris ao c l k kd x W (D.lie.keep hW) (by omega) (by omega))
 have CK := Lib.hid (fun W hW => rcondition wb ao c l D k W (isT_len h0) h0 hW ih)
 obtain ⟨n, hn⟩ : ∃ n, l.length = n := ⟨_, rfl⟩
 have HN := Lib.hid hn
 rw [hn] at CK IS hlen ⊢
 have hkI : (k : Int) ≤ 1000 := by omega
 have I10 := fun W hW => IS.out 5 wIf W hW
 rw [h0] at I10
 have I1 := Lib.hid I10
 clear I10
 clear D hW hn h0 ih
 go_enter Tryz.func30, Tryz.ntmps30
 go_wp2_with fail
 obtain ⟨W2, hW2⟩ : ∃ W2, (w.alloc (.cells #[.int .i64 0, .int .i64 0, .string ⟨#[]⟩, .slice none 0 0] 27)) = W2 := ⟨_, rfl⟩
 have hz0 : Zx w.heap.size W2 := by rw [← hW2]; exact Zx.new w
 have hb2 : Below w.heap.size w W2 := by rw [← hW2]; exact bal (bref _) _
 have hsz : W2.heap.size = w.heap.size + 1 := by rw [← hW2]; simp
 rw [hW2]
 have Z0 := Lib.hid hz0
 have HB2 := Lib.hid hb2
 have HSZ := Lib.hid hsz
 have HWB := Lib.hid (HW.out.trans (hb2.mono HW.out.size))
 clear hW2 hz0 hb2 hsz
 refine (I1.out W2 HWB.out).mono ?_
 rintro q w1 ⟨rfl, hw1⟩
 subst hw1
 go_wp2_with fail
 refine (CK.out W2 HWB.out).mono ?_
 rintro q w1 ⟨o, hE, hR⟩
 have HE := Lib.hid hE
 clear hE
 obtain ⟨o', ho'⟩ : ∃ o', o = o' := ⟨_, rfl⟩
 have HO := Lib.hid ho'
 rw [ho'] at hR
 clear ho'
 have HED : Hid (ED 0 (l.drop k) o') := Lib.hid (by rw [← HO.out]; exact (Or.inl ⟨by omega, HE.out⟩))
 clear HE HO
 cases o' with
 | ok e kk m =>
  obtain ⟨k', so, cap, hm, hk', rfl, hX, hc, hb1⟩ := hR
  subst hm
  have Z1 := Lib.hid (Z0.out.below hb1)
  have HB1 := Lib.hid (HB2.out.trans (hb1.mono HB2.out.size))
  have HX := Lib.hid hX
  have HC := Lib.hid hc
  have HK' := Lib.hid hk'
  clear hb1 hX hc hk'
  obtain ⟨y0, y1, y2, y3, fz⟩ := Z1.out
  have lt0 := Zx.lt Z1.out
  have lt1 : w.heap.size < w1.heap.size + 1 := by omega
  have lt2 : w.heap.size < w1.heap.size + 1 + 1 := by omega
  go_wp2_with fail
  refine bodyPost_ret (res_ex3 rfl _ _ _ rfl _ _ _ _ (st4_0 Z1.out _ _ _ _) (st4_1 Z1.out _ _ _ _) (st4_2 Z1.out _ _ _ _) (st4_3 Z1.out _ _ _ _) _ _ rfl rfl) rfl ?_
  refine ⟨_, HED.out, ?_⟩
  exact RD.ok (W := w1) HK'.out (HX.out.mono (by rw [HSZ.out]; exact Nat.le_refl _)) HC.out (by repeat (first | exact Ag.refl _ _ | refine Ag.set ?_ _ _ | refine Ag.alloc ?_ _)) HB1.out
 | bad m =>
  obtain ⟨k', hm, hk', rfl, hb1⟩ := hR
  subst hm
  have Z1 := Lib.hid (Z0.out.below hb1)
  have HB1 := Lib.hid (HB2.out.trans (hb1.mono HB2.out.size))
  have HK' := Lib.hid hk'
  clear hb1 hk'
  obtain ⟨y0, y1, y2, y3, fz⟩ := Z1.out
  have lt0 := Zx.lt Z1.out
  have lt1 : w.heap.size < w1.heap.size + 1 := by omega
  have lt2 : w.heap.size < w1.heap.size + 1 + 1 := by omega
  go_wp2_with fail
  refine bodyPost_ret (res_ex3 rfl _ _ _ rfl _ _ _ _ (st4_0 Z1.out _ _ _ _) (st4_1 Z1.out _ _ _ _) (st4_2 Z1.out _ _ _ _) (st4_3 Z1.out _ _ _ _) _ _ rfl rfl) rfl ?_
  refine ⟨_, HED.out, ?_⟩
  exact RD.bad (W := w1) HK'.out (by repeat (first | exact Ag.refl _ _ | refine Ag.set ?_ _ _ | refine Ag.alloc ?_ _)) HB1.out
set_option maxRecDepth 100000 in
set_option maxHeartbeats 8000000 in
theorem rp_zero (wb : World) (ao : Option Addr) (c : Nat) (l : List Tok) (D : Dc wb ao l) (k : Nat) (w : World) (hk : k ≤ l.length) (hW : Below wb.heap.size wb w) (h0 : isT 5 wIf (l.drop k) = false) (ih : PC wb ao c l k 1) :
  Calls Tryz.prog 30 #[.slice ao l.length c, .int .i64 (k : Int), .int .i64 0] w fun q w' => ∃ o, ED 0 (l.drop k) o ∧ RD l w o q w' := by
 have HW := Lib.hid hW
 have hlen := D.len
 have IS := Lib.hid (fun kd x W hW => ris ao c l k kd x W (D.lie.keep hW) (by omega) (by omega))
 have CK := Lib.hid (fun W hW => ih (k : Int) 1 W rfl rfl hW)
 obtain ⟨n, hn⟩ : ∃ n, l.length = n := ⟨_, rfl⟩
 have HN := Lib.hid hn
 rw [hn] at CK IS hlen ⊢
 have hkI : (k : Int) ≤ 1000 := by omega
 have I10 := fun W hW => IS.out 5 wIf W hW
 rw [h0] at I10
 have I1 := Lib.hid I10
 clear I10
 have H0 := Lib.hid h0
 clear h0
 clear D hW hn ih
 go_enter Tryz.func30, Tryz.ntmps30
 go_wp2_with fail
 obtain ⟨W2, hW2⟩ : ∃ W2, (w.alloc (.cells #[.int .i64 0, .int .i64 0, .string ⟨#[]⟩, .slice none 0 0] 27)) = W2 := ⟨_, rfl⟩
 have hz0 : Zx w.heap.size W2 := by rw [← hW2]; exact Zx.new w
 have hb2 : Below w.heap.size w W2 := by rw [← hW2]; exact bal (bref _) _
 have hsz : W2.heap.size = w.heap.size + 1 := by rw [← hW2]; simp
 rw [hW2]
 have Z0 := Lib.hid hz0
 have HB2 := Lib.hid hb2
 have HSZ := Lib.hid hsz
 have HWB := Lib.hid (HW.out.trans (hb2.mono HW.out.size))
 clear hW2 hz0 hb2 hsz
 refine (I1.out W2 HWB.out).mono ?_
 rintro q w1 ⟨rfl, hw1⟩
 subst hw1
 go_wp2_with fail
 refine (CK.out W2 HWB.out).mono ?_
 rintro q w1 ⟨o, hE, hR⟩
 have HE := Lib.hid hE
 clear hE
 obtain ⟨o', ho'⟩ : ∃ o', o = o' := ⟨_, rfl⟩
 have HO := Lib.hid ho'
 rw [ho'] at hR
 clear ho'
 have HED : Hid (ED 0 (l.drop k) o') := Lib.hid (by rw [← HO.out]; exact (Or.inl ⟨by omega, E.zero H0.out (HE.out.e (by omega))⟩))
 clear HE HO
 cases o' with
 | ok e kk m =>
  obtain ⟨k', so, cap, hm, hk', rfl, hX, hc, hb1⟩ := hR
  subst hm
  have Z1 := Lib.hid (Z0.out.below hb1)
  have HB1 := Lib.hid (HB2.out.trans (hb1.mono HB2.out.size))
  have HX := Lib.hid hX
  have HC := Lib.hid hc
  have HK' := Lib.hid hk'
  clear hb1 hX hc hk'
  obtain ⟨y0, y1, y2, y3, fz⟩ := Z1.out
  have lt0 := Zx.lt Z1.out
  have lt1 : w.heap.size < w1.heap.size + 1 := by omega
  have lt2 : w.heap.size < w1.heap.size + 1 + 1 := by omega
  go_wp2_with fail
  refine bodyPost_ret (res_ex3 rfl _ _ _ rfl _ _ _ _ (st4_0 Z1.out _ _ _ _) (st4_1 Z1.out _ _ _ _) (st4_2 Z1.out _ _ _ _) (st4_3 Z1.out _ _ _ _) _ _ rfl rfl) rfl ?_
  refine ⟨_, HED.out, ?_⟩
  exact RD.ok (W := w1) HK'.out (HX.out.mono (by rw [HSZ.out]; exact Nat.le_refl _)) HC.out (by repeat (first | exact Ag.refl _ _ | refine Ag.set ?_ _ _ | refine Ag.alloc ?_ _)) HB1.out
 | bad m =>
  obtain ⟨k', hm, hk', rfl, hb1⟩ := hR
  subst hm
  have Z1 := Lib.hid (Z0.out.below hb1)
  have HB1 := Lib.hid (HB2.out.trans (hb1.mono HB2.out.size))
  have HK' := Lib.hid hk'
  clear hb1 hk'
  obtain ⟨y0, y1, y2, y3, fz⟩ := Z1.out
  have lt0 := Zx.lt Z1.out
  have lt1 : w.heap.size < w1.heap.size + 1 := by omega
  have lt2 : w.heap.size < w1.heap.size + 1 + 1 := by omega
  go_wp2_with fail
  refine bodyPost_ret (res_ex3 rfl _ _ _ rfl _ _ _ _ (st4_0 Z1.out _ _ _ _) (st4_1 Z1.out _ _ _ _) (st4_2 Z1.out _ _ _ _) (st4_3 Z1.out _ _ _ _) _ _ rfl rfl) rfl ?_
  refine ⟨_, HED.out, ?_⟩
  exact RD.bad (W := w1) HK'.out (by repeat (first | exact Ag.refl _ _ | refine Ag.set ?_ _ _ | refine Ag.alloc ?_ _)) HB1.out
set_option maxRecDepth 100000 in
set_option maxHeartbeats 8000000 in
theorem rp_not (wb : World) (ao : Option Addr) (c : Nat) (l : List Tok) (D : Dc wb ao l) (k : Nat) (w : World) (hk : k ≤ l.length) (hW : Below wb.heap.size wb w) (h0 : isT 5 wNot (l.drop k) = true) (ih : PC wb ao c l (k + 1) 3) :
  Calls Tryz.prog 30 #[.slice ao l.length c, .int .i64 (k : Int), .int .i64 3] w fun q w' => ∃ o, ED 3 (l.drop k) o ∧ RD l w o q w' := by
 have HW := Lib.hid hW
 have hlen := D.len
 have IS := Lib.hid (fun kd x W hW => ris ao c l k kd x W (D.lie.keep hW) (by omega) (by omega))
 have CK := Lib.hid (fun W hW => runary wb ao c l D k 3 16 3 W (isT_len h0) rfl (by omega) hW ih)
 obtain ⟨n, hn⟩ : ∃ n, l.length = n := ⟨_, rfl⟩
 have HN := Lib.hid hn
 rw [hn] at CK IS hlen ⊢
 have hkI : (k : Int) ≤ 1000 := by omega
 have I10 := fun W hW => IS.out 5 wNot W hW
 rw [h0] at I10
 have I1 := Lib.hid I10
 clear I10
 have H0 := Lib.hid h0
 clear h0
 clear D hW hn ih
 go_enter Tryz.func30, Tryz.ntmps30
 go_wp2_with fail
 obtain ⟨W2, hW2⟩ : ∃ W2, (w.alloc (.cells #[.int .i64 0, .int .i64 0, .string ⟨#[]⟩, .slice none 0 0] 27)) = W2 := ⟨_, rfl⟩
 have hz0 : Zx w.heap.size W2 := by rw [← hW2]; exact Zx.new w
 have hb2 : Below w.heap.size w W2 := by rw [← hW2]; exact bal (bref _) _
 have hsz : W2.heap.size = w.heap.size + 1 := by rw [← hW2]; simp
 rw [hW2]
 have Z0 := Lib.hid hz0
 have HB2 := Lib.hid hb2
 have HSZ := Lib.hid hsz
 have HWB := Lib.hid (HW.out.trans (hb2.mono HW.out.size))
 clear hW2 hz0 hb2 hsz
 refine (I1.out W2 HWB.out).mono ?_
 rintro q w1 ⟨rfl, hw1⟩
 subst hw1
 go_wp2_with fail
 refine (CK.out W2 HWB.out).mono ?_
 rintro q w1 ⟨o, hE, hR⟩
 have HE := Lib.hid hE
 clear hE
 obtain ⟨o', ho'⟩ : ∃ o', un 16 3 o = o' := ⟨_, rfl⟩
 have HO := Lib.hid ho'
 rw [ho'] at hR
 clear ho'
 have HED : Hid (ED 3 (l.drop k) o') := Lib.hid (by rw [← HO.out]; exact (Or.inl ⟨by omega, un_not H0.out (by rw [tl]; exact HE.out)⟩))
 clear HE HO
 cases o' with
 | ok e kk m =>
  obtain ⟨k', so, cap, hm, hk', rfl, hX, hc, hb1⟩ := hR
  subst hm
  have Z1 := Lib.hid (Z0.out.below hb1)
  have HB1 := Lib.hid (HB2.out.trans (hb1.mono HB2.out.size))
  have HX := Lib.hid hX
  have HC := Lib.hid hc
  have HK' := Lib.hid hk'
  clear hb1 hX hc hk'
  obtain ⟨y0, y1, y2, y3, fz⟩ := Z1.out
  have lt0 := Zx.lt Z1.out
  have lt1 : w.heap.size < w1.heap.size + 1 := by omega
  have lt2 : w.heap.size < w1.heap.size + 1 + 1 := by omega
  go_wp2_with fail
  refine bodyPost_ret (res_ex3 rfl _ _ _ rfl _ _ _ _ (st4_0 Z1.out _ _ _ _) (st4_1 Z1.out _ _ _ _) (st4_2 Z1.out _ _ _ _) (st4_3 Z1.out _ _ _ _) _ _ rfl rfl) rfl ?_
  refine ⟨_, HED.out, ?_⟩
  exact RD.ok (W := w1) HK'.out (HX.out.mono (by rw [HSZ.out]; exact Nat.le_refl _)) HC.out (by repeat (first | exact Ag.refl _ _ | refine Ag.set ?_ _ _ | refine Ag.alloc ?_ _)) HB1.out
 | bad m =>
  obtain ⟨k', hm, hk', rfl, hb1⟩ := hR
  subst hm
  have Z1 := Lib.hid (Z0.out.below hb1)
  have HB1 := Lib.hid (HB2.out.trans (hb1.mono HB2.out.size))
  have HK' := Lib.hid hk'
  clear hb1 hk'
  obtain ⟨y0, y1, y2, y3, fz⟩ := Z1.out
  have lt0 := Zx.lt Z1.out
  have lt1 : w.heap.size < w1.heap.size + 1 := by omega
  have lt2 : w.heap.size < w1.heap.size + 1 + 1 := by omega
  go_wp2_with fail
  refine bodyPost_ret (res_ex3 rfl _ _ _ rfl _ _ _ _ (st4_0 Z1.out _ _ _ _) (st4_1 Z1.out _ _ _ _) (st4_2 Z1.out _ _ _ _) (st4_3 Z1.out _ _ _ _) _ _ rfl rfl) rfl ?_
  refine ⟨_, HED.out, ?_⟩
  exact RD.bad (W := w1) HK'.out (by repeat (first | exact Ag.refl _ _ | refine Ag.set ?_ _ _ | refine Ag.alloc ?_ _)) HB1.out
set_option maxRecDepth 100000 in
set_option maxHeartbeats 8000000 in
theorem rp_neg (wb : World) (ao : Option Addr) (c : Nat) (l : List Tok) (D : Dc wb ao l) (k : Nat) (w : World) (hk : k ≤ l.length) (hW : Below wb.heap.size wb w) (h0 : isT 4 [45] (l.drop k) = true) (ih : PC wb ao c l (k + 1) 7) :
  Calls Tryz.prog 30 #[.slice ao l.length c, .int .i64 (k : Int), .int .i64 7] w fun q w' => ∃ o, ED 7 (l.drop k) o ∧ RD l w o q w' := by
 have HW := Lib.hid hW
 have hlen := D.len
 have IS := Lib.hid (fun kd x W hW => ris ao c l k kd x W (D.lie.keep hW) (by omega) (by omega))
 have CK := Lib.hid (fun W hW => runary wb ao c l D k 7 9 7 W (isT_len h0) rfl (by omega) hW ih)
 obtain ⟨n, hn⟩ : ∃ n, l.length = n := ⟨_, rfl⟩
 have HN := Lib.hid hn
 rw [hn] at CK IS hlen ⊢
 have hkI : (k : Int) ≤ 1000 := by omega
 have I10 := fun W hW => IS.out 4 [45] W hW
 rw [h0] at I10
 have I1 := Lib.hid I10
 clear I10
 have H0 := Lib.hid h0
 clear h0
 clear D hW hn ih
 go_enter Tryz.func30, Tryz.ntmps30
 go_wp2_with fail
 obtain ⟨W2, hW2⟩ : ∃ W2, (w.alloc (.cells #[.int .i64 0, .int .i64 0, .string ⟨#[]⟩, .slice none 0 0] 27)) = W2 := ⟨_, rfl⟩
 have hz0 : Zx w.heap.size W2 := by rw [← hW2]; exact Zx.new w
 have hb2 : Below w.heap.size w W2 := by rw [← hW2]; exact bal (bref _) _
 have hsz : W2.heap.size = w.heap.size + 1 := by rw [← hW2]; simp
 rw [hW2]
 have Z0 := Lib.hid hz0
 have HB2 := Lib.hid hb2
 have HSZ := Lib.hid hsz
 have HWB := Lib.hid (HW.out.trans (hb2.mono HW.out.size))
 clear hW2 hz0 hb2 hsz
 refine (I1.out W2 HWB.out).mono ?_
 rintro q w1 ⟨rfl, hw1⟩
 subst hw1
 go_wp2_with fail
 refine (CK.out W2 HWB.out).mono ?_
 rintro q w1 ⟨o, hE, hR⟩
 have HE := Lib.hid hE
 clear hE
 obtain ⟨o', ho'⟩ : ∃ o', un 9 7 o = o' := ⟨_, rfl⟩
 have HO := Lib.hid ho'
 rw [ho'] at hR
 clear ho'
 have HED : Hid (ED 7 (l.drop k) o') := Lib.hid (by rw [← HO.out]; exact (Or.inl ⟨by omega, un_neg H0.out (by rw [tl]; exact HE.out)⟩))
 clear HE HO
 cases o' with
 | ok e kk m =>
  obtain ⟨k', so, cap, hm, hk', rfl, hX, hc, hb1⟩ := hR
  subst hm
  have Z1 := Lib.hid (Z0.out.below hb1)
  have HB1 := Lib.hid (HB2.out.trans (hb1.mono HB2.out.size))
  have HX := Lib.hid hX
  have HC := Lib.hid hc
  have HK' := Lib.hid hk'
  clear hb1 hX hc hk'
  obtain ⟨y0, y1, y2, y3, fz⟩ := Z1.out
  have lt0 := Zx.lt Z1.out
  have lt1 : w.heap.size < w1.heap.size + 1 := by omega
  have lt2 : w.heap.size < w1.heap.size + 1 + 1 := by omega
  go_wp2_with fail
  refine bodyPost_ret (res_ex3 rfl _ _ _ rfl _ _ _ _ (st4_0 Z1.out _ _ _ _) (st4_1 Z1.out _ _ _ _) (st4_2 Z1.out _ _ _ _) (st4_3 Z1.out _ _ _ _) _ _ rfl rfl) rfl ?_
  refine ⟨_, HED.out, ?_⟩
  exact RD.ok (W := w1) HK'.out (HX.out.mono (by rw [HSZ.out]; exact Nat.le_refl _)) HC.out (by repeat (first | exact Ag.refl _ _ | refine Ag.set ?_ _ _ | refine Ag.alloc ?_ _)) HB1.out
 | bad m =>
  obtain ⟨k', hm, hk', rfl, hb1⟩ := hR
  subst hm
  have Z1 := Lib.hid (Z0.out.below hb1)
  have HB1 := Lib.hid (HB2.out.trans (hb1.mono HB2.out.size))
  have HK' := Lib.hid hk'
  clear hb1 hk'
  obtain ⟨y0, y1, y2, y3, fz⟩ := Z1.out
  have lt0 := Zx.lt Z1.out
  have lt1 : w.heap.size < w1.heap.size + 1 := by omega
  have lt2 : w.heap.size < w1.heap.size + 1 + 1 := by omega
  go_wp2_with fail
  refine bodyPost_ret (res_ex3 rfl _ _ _ rfl _ _ _ _ (st4_0 Z1.out _ _ _ _) (st4_1 Z1.out _ _ _ _) (st4_2 Z1.out _ _ _ _) (st4_3 Z1.out _ _ _ _) _ _ rfl rfl) rfl ?_
  refine ⟨_, HED.out, ?_⟩
  exact RD.bad (W := w1) HK'.out (by repeat (first | exact Ag.refl _ _ | refine Ag.set ?_ _ _ | refine Ag.alloc ?_ _)) HB1.out
set_option maxRecDepth 100000 in
set_option maxHeartbeats 8000000 in
theorem rp_up3 (wb : World) (ao : Option Addr) (c : Nat) (l : List Tok) (D : Dc wb ao l) (k : Nat) (w : World) (hk : k ≤ l.length) (hW : Below wb.heap.size wb w) (h0 : isT 5 wNot (l.drop k) = false) (ih : PC wb ao c l k 4) :
  Calls Tryz.prog 30 #[.slice ao l.length c, .int .i64 (k : Int), .int .i64 3] w fun q w' => ∃ o, ED 3 (l.drop k) o ∧ RD l w o q w' := by
 have HW := Lib.hid hW
 have hlen := D.len
 have IS := Lib.hid (fun kd x W hW => ris ao c l k kd x W (D.lie.keep hW) (by omega) (by omega))
 have CK := Lib.hid (fun W hW => ih (k : Int) 4 W rfl rfl hW)
 obtain ⟨n, hn⟩ : ∃ n, l.length = n := ⟨_, rfl⟩
 have HN := Lib.hid hn
 rw [hn] at CK IS hlen ⊢
 have hkI : (k : Int) ≤ 1000 := by omega
 have I10 := fun W hW => IS.out 5 wNot W hW
 rw [h0] at I10
 have I1 := Lib.hid I10
 clear I10
 have H0 := Lib.hid h0
 clear h0
 clear D hW hn ih
 go_enter Tryz.func30, Tryz.ntmps30
 go_wp2_with fail
 obtain ⟨W2, hW2⟩ : ∃ W2, (w.alloc (.cells #[.int .i64 0, .int .i64 0, .string ⟨#[]⟩, .slice none 0 0] 27)) = W2 := ⟨_, rfl⟩
 have hz0 : Zx w.heap.size W2 := by rw [← hW2]; exact Zx.new w
 have hb2 : Below w.heap.size w W2 := by rw [← hW2]; exact bal (bref _) _
 have hsz : W2.heap.size = w.heap.size + 1 := by rw [← hW2]; simp
 rw [hW2]
 have Z0 := Lib.hid hz0
 have HB2 := Lib.hid hb2
 have HSZ := Lib.hid hsz
 have HWB := Lib.hid (HW.out.trans (hb2.mono HW.out.size))
 clear hW2 hz0 hb2 hsz
 refine (I1.out W2 HWB.out).mono ?_
 rintro q w1 ⟨rfl, hw1⟩
 subst hw1
 go_wp2_with fail
 refine (CK.out W2 HWB.out).mono ?_
 rintro q w1 ⟨o, hE, hR⟩
 have HE := Lib.hid hE
 clear hE
 obtain ⟨o', ho'⟩ : ∃ o', o = o' := ⟨_, rfl⟩
 have HO := Lib.hid ho'
 rw [ho'] at hR
 clear ho'
 have HED : Hid (ED 3 (l.drop k) o') := Lib.hid (by rw [← HO.out]; exact (Or.inl ⟨by omega, E.three H0.out (HE.out.e (by omega))⟩))
 clear HE HO
 cases o' with
 | ok e kk m =>
  obtain ⟨k', so, cap, hm, hk', rfl, hX, hc, hb1⟩ := hR
  subst hm
  have Z1 := Lib.hid (Z0.out.below hb1)
  have HB1 := Lib.hid (HB2.out.trans (hb1.mono HB2.out.size))
  have HX := Lib.hid hX
  have HC := Lib.hid hc
  have HK' := Lib.hid hk'
  clear hb1 hX hc hk'
  obtain ⟨y0, y1, y2, y3, fz⟩ := Z1.out
  have lt0 := Zx.lt Z1.out
  have lt1 : w.heap.size < w1.heap.size + 1 := by omega
  have lt2 : w.heap.size < w1.heap.size + 1 + 1 := by omega
  go_wp2_with fail
  refine bodyPost_ret (res_ex3 rfl _ _ _ rfl _ _ _ _ (st4_0 Z1.out _ _ _ _) (st4_1 Z1.out _ _ _ _) (st4_2 Z1.out _ _ _ _) (st4_3 Z1.out _ _ _ _) _ _ rfl rfl) rfl ?_
  refine ⟨_, HED.out, ?_⟩
  exact RD.ok (W := w1) HK'.out (HX.out.mono (by rw [HSZ.out]; exact Nat.le_refl _)) HC.out (by repeat (first | exact Ag.refl _ _ | refine Ag.set ?_ _ _ | refine Ag.alloc ?_ _)) HB1.out
 | bad m =>
  obtain ⟨k', hm, hk', rfl, hb1⟩ := hR
  subst hm
  have Z1 := Lib.hid (Z0.out.below hb1)
  have HB1 := Lib.hid (HB2.out.trans (hb1.mono HB2.out.size))
  have HK' := Lib.hid hk'
  clear hb1 hk'
  obtain ⟨y0, y1, y2, y3, fz⟩ := Z1.out
  have lt0 := Zx.lt Z1.out
  have lt1 : w.heap.size < w1.heap.size + 1 := by omega
  have lt2 : w.heap.size < w1.heap.size + 1 + 1 := by omega
  go_wp2_with fail
  refine bodyPost_ret (res_ex3 rfl _ _ _ rfl _ _ _ _ (st4_0 Z1.out _ _ _ _) (st4_1 Z1.out _ _ _ _) (st4_2 Z1.out _ _ _ _) (st4_3 Z1.out _ _ _ _) _ _ rfl rfl) rfl ?_
  refine ⟨_, HED.out, ?_⟩
  exact RD.bad (W := w1) HK'.out (by repeat (first | exact Ag.refl _ _ | refine Ag.set ?_ _ _ | refine Ag.alloc ?_ _)) HB1.out
set_option maxRecDepth 100000 in
set_option maxHeartbeats 8000000 in
theorem rp_up7 (wb : World) (ao : Option Addr) (c : Nat) (l : List Tok) (D : Dc wb ao l) (k : Nat) (w : World) (hk : k ≤ l.length) (hW : Below wb.heap.size wb w) (h0 : isT 4 [45] (l.drop k) = false) (ih : PC wb ao c l k 8) :
  Calls Tryz.prog 30 #[.slice ao l.length c, .int .i64 (k : Int), .int .i64 7] w fun q w' => ∃ o, ED 7 (l.drop k) o ∧ RD l w o q w' := by
 have HW := Lib.hid hW
 have hlen := D.len
 have IS := Lib.hid (fun kd x W hW => ris ao c l k kd x W (D.lie.keep hW) (by omega) (by omega))
 have CK := Lib.hid (fun W hW => ih (k : Int) 8 W rfl rfl hW)
 obtain ⟨n, hn⟩ : ∃ n, l.length = n := ⟨_, rfl⟩
 have HN := Lib.hid hn
 rw [hn] at CK IS hlen ⊢
 have hkI : (k : Int) ≤ 1000 := by omega
 have I10 := fun W hW => IS.out 4 [45] W hW
 rw [h0] at I10
 have I1 := Lib.hid I10
 clear I10
 have H0 := Lib.hid h0
 clear h0
 clear D hW hn ih
 go_enter Tryz.func30, Tryz.ntmps30
 go_wp2_with fail
 obtain ⟨W2, hW2⟩ : ∃ W2, (w.alloc (.cells #[.int .i64 0, .int .i64 0, .string ⟨#[]⟩, .slice none 0 0] 27)) = W2 := ⟨_, rfl⟩
 have hz0 : Zx w.heap.size W2 := by rw [← hW2]; exact Zx.new w
 have hb2 : Below w.heap.size w W2 := by rw [← hW2]; exact bal (bref _) _
 have hsz : W2.heap.size = w.heap.size + 1 := by rw [← hW2]; simp
 rw [hW2]
 have Z0 := Lib.hid hz0
 have HB2 := Lib.hid hb2
 have HSZ := Lib.hid hsz
 have HWB := Lib.hid (HW.out.trans (hb2.mono HW.out.size))
 clear hW2 hz0 hb2 hsz
 refine (I1.out W2 HWB.out).mono ?_
 rintro q w1 ⟨rfl, hw1⟩
 subst hw1
 go_wp2_with fail
 refine (CK.out W2 HWB.out).mono ?_
 rintro q w1 ⟨o, hE, hR⟩
 have HE := Lib.hid hE
 clear hE
 obtain ⟨o', ho'⟩ : ∃ o', o = o' := ⟨_, rfl⟩
 have HO := Lib.hid ho'
 rw [ho'] at hR
 clear ho'
 have HED : Hid (ED 7 (l.drop k) o') := Lib.hid (by rw [← HO.out]; exact (Or.inl ⟨by omega, E.seven_p H0.out HE.out.p⟩))
 clear HE HO
 cases o' with
 | ok e kk m =>
  obtain ⟨k', so, cap, hm, hk', rfl, hX, hc, hb1⟩ := hR
  subst hm
  have Z1 := Lib.hid (Z0.out.below hb1)
  have HB1 := Lib.hid (HB2.out.trans (hb1.mono HB2.out.size))
  have HX := Lib.hid hX
  have HC := Lib.hid hc
  have HK' := Lib.hid hk'
  clear hb1 hX hc hk'
  obtain ⟨y0, y1, y2, y3, fz⟩ := Z1.out
  have lt0 := Zx.lt Z1.out
  have lt1 : w.heap.size < w1.heap.size + 1 := by omega
  have lt2 : w.heap.size < w1.heap.size + 1 + 1 := by omega
  go_wp2_with fail
  refine bodyPost_ret (res_ex3 rfl _ _ _ rfl _ _ _ _ (st4_0 Z1.out _ _ _ _) (st4_1 Z1.out _ _ _ _) (st4_2 Z1.out _ _ _ _) (st4_3 Z1.out _ _ _ _) _ _ rfl rfl) rfl ?_
  refine ⟨_, HED.out, ?_⟩
  exact RD.ok (W := w1) HK'.out (HX.out.mono (by rw [HSZ.out]; exact Nat.le_refl _)) HC.out (by repeat (first | exact Ag.refl _ _ | refine Ag.set ?_ _ _ | refine Ag.alloc ?_ _)) HB1.out
 | bad m =>
  obtain ⟨k', hm, hk', rfl, hb1⟩ := hR
  subst hm
  have Z1 := Lib.hid (Z0.out.below hb1)
  have HB1 := Lib.hid (HB2.out.trans (hb1.mono HB2.out.size))
  have HK' := Lib.hid hk'
  clear hb1 hk'
  obtain ⟨y0, y1, y2, y3, fz⟩ := Z1.out
  have lt0 := Zx.lt Z1.out
  have lt1 : w.heap.size < w1.heap.size + 1 := by omega
  have lt2 : w.heap.size < w1.heap.size + 1 + 1 := by omega
  go_wp2_with fail
  refine bodyPost_ret (res_ex3 rfl _ _ _ rfl _ _ _ _ (st4_0 Z1.out _ _ _ _) (st4_1 Z1.out _ _ _ _) (st4_2 Z1.out _ _ _ _) (st4_3 Z1.out _ _ _ _) _ _ rfl rfl) rfl ?_
  refine ⟨_, HED.out, ?_⟩
  exact RD.bad (W := w1) HK'.out (by repeat (first | exact Ag.refl _ _ | refine Ag.set ?_ _ _ | refine Ag.alloc ?_ _)) HB1.out
set_option maxRecDepth 100000 in
set_option maxHeartbeats 8000000 in
theorem rp_prim (wb : World) (ao : Option Addr) (c : Nat) (l : List Tok) (D : Dc wb ao l) (k : Nat) (w : World) (hk : k ≤ l.length) (hW : Below wb.heap.size wb w) (ih : ∀ k2, k < k2 → k2 ≤ l.length → PC wb ao c l k2 0) :
  Calls Tryz.prog 30 #[.slice ao l.length c, .int .i64 (k : Int), .int .i64 8] w fun q w' => ∃ o, ED 8 (l.drop k) o ∧ RD l w o q w' := by
 have HW := Lib.hid hW
 have hlen := D.len
 have IS := Lib.hid (fun kd x W hW => ris ao c l k kd x W (D.lie.keep hW) (by omega) (by omega))
 have CK := Lib.hid (fun W hW => rprimary wb ao c l D k W hk hW ih)
 obtain ⟨n, hn⟩ : ∃ n, l.length = n := ⟨_, rfl⟩
 have HN := Lib.hid hn
 rw [hn] at CK IS hlen ⊢
 have hkI : (k : Int) ≤ 1000 := by omega
 clear D hW hn ih
 go_enter Tryz.func30, Tryz.ntmps30
 go_wp2_with fail
 obtain ⟨W2, hW2⟩ : ∃ W2, (w.alloc (.cells #[.int .i64 0, .int .i64 0, .string ⟨#[]⟩, .slice none 0 0] 27)) = W2 := ⟨_, rfl⟩
 have hz0 : Zx w.heap.size W2 := by rw [← hW2]; exact Zx.new w
 have hb2 : Below w.heap.size w W2 := by rw [← hW2]; exact bal (bref _) _
 have hsz : W2.heap.size = w.heap.size + 1 := by rw [← hW2]; simp
 rw [hW2]
 have Z0 := Lib.hid hz0
 have HB2 := Lib.hid hb2
 have HSZ := Lib.hid hsz
 have HWB := Lib.hid (HW.out.trans (hb2.mono HW.out.size))
 clear hW2 hz0 hb2 hsz
 refine (CK.out W2 HWB.out).mono ?_
 rintro q w1 ⟨o, hE, hR⟩
 have HE := Lib.hid hE
 clear hE
 obtain ⟨o', ho'⟩ : ∃ o', o = o' := ⟨_, rfl⟩
 have HO := Lib.hid ho'
 rw [ho'] at hR
 clear ho'
 have HED : Hid (ED 8 (l.drop k) o') := Lib.hid (by rw [← HO.out]; exact (Or.inr ⟨rfl, HE.out⟩))
 clear HE HO
 cases o' with
 | ok e kk m =>
  obtain ⟨k', so, cap, hm, hk', rfl, hX, hc, hb1⟩ := hR
  subst hm
  have Z1 := Lib.hid (Z0.out.below hb1)
  have HB1 := Lib.hid (HB2.out.trans (hb1.mono HB2.out.size))
  have HX := Lib.hid hX
  have HC := Lib.hid hc
  have HK' := Lib.hid hk'
  clear hb1 hX hc hk'
  obtain ⟨y0, y1, y2, y3, fz⟩ := Z1.out
  have lt0 := Zx.lt Z1.out
  have lt1 : w.heap.size < w1.heap.size + 1 := by omega
  have lt2 : w.heap.size < w1.heap.size + 1 + 1 := by omega
  go_wp2_with fail
  refine bodyPost_ret (res_ex3 rfl _ _ _ rfl _ _ _ _ (st4_0 Z1.out _ _ _ _) (st4_1 Z1.out _ _ _ _) (st4_2 Z1.out _ _ _ _) (st4_3 Z1.out _ _ _ _) _ _ rfl rfl) rfl ?_
  refine ⟨_, HED.out, ?_⟩
  exact RD.ok (W := w1) HK'.out (HX.out.mono (by rw [HSZ.out]; exact Nat.le_refl _)) HC.out (by repeat (first | exact Ag.refl _ _ | refine Ag.set ?_ _ _ | refine Ag.alloc ?_ _)) HB1.out
 | bad m =>
  obtain ⟨k', hm, hk', rfl, hb1⟩ := hR
  subst hm
  have Z1 := Lib.hid (Z0.out.below hb1)
  have HB1 := Lib.hid (HB2.out.trans (hb1.mono HB2.out.size))
  have HK' := Lib.hid hk'
  clear hb1 hk'
  obtain ⟨y0, y1, y2, y3, fz⟩ := Z1.out
  have lt0 := Zx.lt Z1.out
  have lt1 : w.heap.size < w1.heap.size + 1 := by omega
  have lt2 : w.heap.size < w1.heap.size + 1 + 1 := by omega
  go_wp2_with fail
  refine bodyPost_ret (res_ex3 rfl _ _ _ rfl _ _ _ _ (st4_0 Z1.out _ _ _ _) (st4_1 Z1.out _ _ _ _) (st4_2 Z1.out _ _ _ _) (st4_3 Z1.out _ _ _ _) _ _ rfl rfl) rfl ?_
  refine ⟨_, HED.out, ?_⟩
  exact RD.bad (W := w1) HK'.out (by repeat (first | exact Ag.refl _ _ | refine Ag.set ?_ _ _ | refine Ag.alloc ?_ _)) HB1.out
end Go.Proofs.YtplkphihmfhciaaGreatDoor

/- Expressions: the document's own parse at a binary rank, at every rank. -/
namespace Go.Proofs.YtplkphihmfhciaaGreatDoor
open Go Go.RowKit Go.Lib Go.Shelf WM TM EM

theorem Zx.set4 {b b' : Nat} {W : World} (h : Zx b W) (hne : b ≠ b') (x0 x1 x2 x3 : Value) : Zx b ((((W.setCell ⟨b', 0, none⟩ x0).setCell ⟨b', 1, none⟩ x1).setCell ⟨b', 2, none⟩ x2).setCell ⟨b', 3, none⟩ x3) :=
 (((h.set hne 0 x0).set hne 1 x1).set hne 2 x2).set hne 3 x3
theorem ag4 (b : Nat) (W : World) (x0 x1 x2 x3 : Value) : Ag b ((((W.setCell ⟨b, 0, none⟩ x0).setCell ⟨b, 1, none⟩ x1).setCell ⟨b, 2, none⟩ x2).setCell ⟨b, 3, none⟩ x3) W :=
 ((((Ag.refl b W).set 0 x0).set 1 x1).set 2 x2).set 3 x3
set_option maxRecDepth 100000 in
set_option maxHeartbeats 16000000 in
theorem rp_bin (wb : World) (ao : Option Addr) (c : Nat) (l : List Tok) (D : Dc wb ao l) (k r : Nat) (w : World) (hk : k ≤ l.length) (hr : r = 1 ∨ r = 2 ∨ r = 4 ∨ r = 5 ∨ r = 6) (hW : Below wb.heap.size wb w) (ihu : PC wb ao c l k (r + 1)) (ihg : ∀ k2, k < k2 → k2 ≤ l.length → PC wb ao c l k2 (r + 1)) :
  Calls Tryz.prog 30 #[.slice ao l.length c, .int .i64 (k : Int), .int .i64 (r : Int)] w fun q w' => ∃ o, ED r (l.drop k) o ∧ RD l w o q w' := by
 have HW := Lib.hid hW
 have HR := Lib.hid hr
 have hlen := D.len
 have PK := Lib.hid (fun W hW => ihu (k : Int) ((r : Int) + 1) W rfl (by omega) hW)
 have PG := Lib.hid (fun j (hj : k < j + 1) (hj2 : j + 1 ≤ l.length) W hW => ihg (j + 1) hj hj2 ((j : Int) + 1) ((r : Int) + 1) W (by omega) (by omega) hW)
 have BN := Lib.hid (fun j (hj : j ≤ 1000) W hW => rbinary ao c l j r W (D.lie.keep hW) (by omega) (by omega))
 obtain ⟨n, hn⟩ : ∃ n, l.length = n := ⟨_, rfl⟩
 have HN := Lib.hid hn
 rw [hn] at PK PG BN hlen ⊢
 have hkI : (k : Int) ≤ 1000 := by omega
 have g0 : ((r : Int) == 0) = false := by rw [beq_eq_false_iff_ne]; omega
 have g3 : ((r : Int) == 3) = false := by rw [beq_eq_false_iff_ne]; omega
 have g7 : ((r : Int) == 7) = false := by rw [beq_eq_false_iff_ne]; omega
 have g8 : ((r : Int) == 8) = false := by rw [beq_eq_false_iff_ne]; omega
 have hr6 : (r : Int) ≤ 6 := by omega
 clear ihu ihg D hW hn
 go_enter Tryz.func30, Tryz.ntmps30
 go_wp2_with fail
 obtain ⟨W2, hW2⟩ : ∃ W2, (w.alloc (.cells #[.int .i64 0, .int .i64 0, .string ⟨#[]⟩, .slice none 0 0] 27)) = W2 := ⟨_, rfl⟩
 have hz0 : Zx w.heap.size W2 := by rw [← hW2]; exact Zx.new w
 have hb2 : Below w.heap.size w W2 := by rw [← hW2]; exact bal (bref _) _
 have hsz : W2.heap.size = w.heap.size + 1 := by rw [← hW2]; simp
 rw [hW2]
 have Z0 := Lib.hid hz0
 have HB2 := Lib.hid hb2
 have HSZ := Lib.hid hsz
 have HWB := Lib.hid (HW.out.trans (hb2.mono HW.out.size))
 clear hW2 hz0 hb2 hsz
 refine (PK.out W2 HWB.out).mono ?_
 rintro q w1 ⟨o, hE, hR⟩
 have hE1 := hE.e (by have := HR.out; omega)
 clear hE
 cases o with
 | bad m =>
  obtain ⟨k', hm, hk', rfl, hb1⟩ := hR
  subst hm
  have HED := Lib.hid (J.start_bad HR.out hE1)
  have Z1 := Lib.hid (Z0.out.below hb1)
  have HB1 := Lib.hid (HB2.out.trans (hb1.mono HB2.out.size))
  have HK' := Lib.hid hk'
  clear hb1 hk' hE1 hr
  obtain ⟨y0, y1, y2, y3, fz⟩ := Z1.out
  have lt0 := Zx.lt Z1.out
  have lt1 : w.heap.size < w1.heap.size + 1 := by omega
  have lt2 : w.heap.size < w1.heap.size + 1 + 1 := by omega
  go_wp2_with fail
  go_loopw [10] (fun y wr => y = .int .i64 (k' : Int) ∧ wr = w1.alloc (.cells #[.int .i64 0, .int .i64 0, .string ⟨#[]⟩, .slice none 0 0] 27)) (fun _ _ => 0)
  case atStart => exact ⟨rfl, rfl⟩
  case round =>
   obtain ⟨rfl, rfl⟩ := hrel
   go_wp2_with fail
   refine bodyPost_ret (res_ex3 rfl _ _ _ rfl _ _ _ _ (keepc (bal (bref _) _) (st4_0 Z1.out _ _ _ _)) (keepc (bal (bref _) _) (st4_1 Z1.out _ _ _ _)) (keepc (bal (bref _) _) (st4_2 Z1.out _ _ _ _)) (keepc (bal (bref _) _) (st4_3 Z1.out _ _ _ _)) _ _ rfl rfl) rfl ?_
   refine ⟨_, Or.inl ⟨by have := HR.out; omega, HED.out⟩, ?_⟩
   exact RD.bad (W := w1.alloc (.cells #[.int .i64 0, .int .i64 0, .string ⟨#[]⟩, .slice none 0 0] 27)) HK'.out (by repeat (first | exact Ag.refl _ _ | refine Ag.set ?_ _ _ | refine Ag.alloc ?_ _)) (bal HB1.out _)
 | ok e kk m =>
  obtain ⟨k', so, cap, hm, hk', rfl, hX, hc, hb1⟩ := hR
  subst hm
  have hJ := J.start HR.out hE1
  have hles := hE1.siz
  have HKK : Hid (k ≤ k') := Lib.hid (by rw [List.length_drop, List.length_drop] at hles; have := siz_pos e; omega)
  have HKN : Hid (k' ≤ n) := Lib.hid (by rw [← HN.out]; exact hk')
  have HJ := Lib.hid hJ
  have Z1 := Lib.hid (Z0.out.below hb1)
  have HB1 := Lib.hid (HB2.out.trans (hb1.mono HB2.out.size))
  have HX := Lib.hid hX
  have HC := Lib.hid hc
  have HWB1 := Lib.hid (HWB.out.trans (hb1.mono HWB.out.size))
  have hlt9 := Z1.out.lt
  have HL9 := Lib.hid hlt9
  have HS21 := Lib.hid hb1.size
  clear hb1 hX hc hk' hE1 hJ hles hr hlt9
  obtain ⟨y0, y1, y2, y3, fz⟩ := Z1.out
  have lt0 := Zx.lt Z1.out
  have lt1 : w.heap.size < w1.heap.size + 1 := by omega
  have lt2 : w.heap.size < w1.heap.size + 1 + 1 := by omega
  go_wp2_with fail
  clear y0 y1 y2 y3 fz
  obtain ⟨W1, hW1⟩ : ∃ W1, w1.alloc (.cells #[.int .i64 e.op, .int .i64 e.n, .string (str e.s), .slice so e.args.length cap] 27) = W1 := ⟨_, rfl⟩
  obtain ⟨b9, hb9⟩ : ∃ b9, w1.heap.size = b9 := ⟨_, rfl⟩
  have HV1 := Lib.hid (bx_vx w1 e so cap)
  have hbW : Below w1.heap.size w1 W1 := by rw [← hW1]; exact bal (bref _) _
  have HXV := Lib.hid (HX.out.xvo (Nat.le_refl _) hbW)
  have HZ1 := Lib.hid (Z1.out.below hbW)
  have HBW1 := Lib.hid (HB1.out.trans (hbW.mono HB1.out.size))
  have HWW1 := Lib.hid (HWB1.out.trans (hbW.mono HWB1.out.size))
  have HSW : Hid (W1.heap.size = b9 + 1) := Lib.hid (by rw [← hW1, ← hb9]; simp)
  have hv : bx w1 e so cap = W1 := hW1
  rw [hv] at HV1
  rw [hb9] at HV1 HXV HL9 lt1 lt2 HS21
  rw [hW1]
  simp only [hb9]
  clear hW1 hb9 hbW hv HX
  go_loopw [10] (fun y wr => ∃ (k' : Nat) (e : Ex) (kk : Nat) (so : Option Addr) (cap : Nat), y = .int .i64 (k' : Int) ∧ k' ≤ n ∧ k ≤ k' ∧ J r (l.drop k) e kk (l.drop k') ∧ Vx b9 e so cap wr ∧ Xv W2.heap.size (some b9) so e.args wr ∧ (so = none → cap = 0) ∧ Zx w.heap.size wr ∧ Below b9 W1 wr) (fun y _ => n - (RowKit.intOf y).toNat)
  case atStart => exact ⟨k', e, kk, so, cap, rfl, HKN.out, HKK.out, HJ.out, HV1.out, HXV.out, HC.out, HZ1.out, Below.refl _ _⟩
  case round =>
   clear HJ HKK HKN HC HV1 HXV HZ1
   obtain ⟨k', e, kk, so, cap, rfl, hkn, hkk, hJ, hV, hXv, hc, hZ, hB⟩ := hrel
   have HJ := Lib.hid hJ
   have HV := Lib.hid hV
   have HXv := Lib.hid hXv
   have HC := Lib.hid hc
   have HZ := Lib.hid hZ
   have HB := Lib.hid hB
   have HKN := Lib.hid hkn
   have HKK := Lib.hid hkk
   have hk'I : (k' : Int) ≤ 1000 := by omega
   have HWr := Lib.hid (HWW1.out.trans (hB.mono (by have := HWB1.out.size; have := HL9.out; have := HW.out.size; omega)))
   have HBr := Lib.hid (HBW1.out.trans (hB.mono (by have := HL9.out; omega)))
   have HSr : Hid (b9 + 1 ≤ wr.heap.size) := Lib.hid (by have := hB.size; have := HSW.out; omega)
   clear hkn hkk hJ hc hB
   obtain ⟨v0, v1, v2, v3, vf⟩ := hV
   go_wp2_with fail
   refine (BN.out k' (by omega) wr HWr.out).mono ?_
   rintro q u ⟨rfl, hbu⟩
   have HVu := Lib.hid (HV.out.below hbu)
   have HXu := Lib.hid (hXv.below hbu)
   have HZu := Lib.hid (hZ.below hbu)
   have HWu := Lib.hid (HWr.out.trans (hbu.mono HWr.out.size))
   have HBu := Lib.hid (HBr.out.trans (hbu.mono HBr.out.size))
   have HBBu := Lib.hid (HB.out.trans (hbu.mono (by have := HSr.out; omega)))
   have HSu : Hid (b9 + 1 ≤ u.heap.size) := Lib.hid (by have := hbu.size; have := HSr.out; omega)
   clear hbu hXv hZ v0 v1 v2 v3 vf
   by_cases hop : bin r (l.drop k') = 0
   ·have HED := Lib.hid (HJ.out.ends hop)
    rw [hop]
    clear hop
    obtain ⟨v0, v1, v2, v3, vf⟩ := HVu.out
    obtain ⟨y0, y1, y2, y3, fz⟩ := HZu.out
    have lt0 := Zx.lt HZu.out
    have lt1 : w.heap.size < u.heap.size + 1 := by omega
    have lt2 : w.heap.size < u.heap.size + 1 + 1 := by omega
    go_wp2_with fail
    refine bodyPost_ret (res_ex3 rfl _ _ _ rfl _ _ _ _ (st4_0 HZu.out _ _ _ _) (st4_1 HZu.out _ _ _ _) (st4_2 HZu.out _ _ _ _) (st4_3 HZu.out _ _ _ _) _ _ rfl rfl) rfl ?_
    refine ⟨_, Or.inl ⟨by have := HR.out; omega, HED.out⟩, ?_⟩
    exact RD.ok (W := u) (by rw [HN.out]; exact HKN.out) (HXu.out.xa.mono (by rw [HSZ.out]; exact Nat.le_refl _)) HC.out (by repeat (first | exact Ag.refl _ _ | refine Ag.set ?_ _ _ | refine Ag.alloc ?_ _)) HBu.out
   ·have hkl := bin_len hop
    have HOP := Lib.hid hop
    have HKL := Lib.hid hkl
    have PY0 := PG.out k' (by have := HKK.out; omega) (by rw [← HN.out]; omega)
    have PY := Lib.hid PY0
    clear hkl PY0
    obtain ⟨OP, hOP⟩ : ∃ OP, bin r (l.drop k') = OP := ⟨_, rfl⟩
    have HOPE := Lib.hid hOP
    have gop : (OP == 0) = false := by rw [beq_eq_false_iff_ne, ← hOP]; exact hop
    rw [hOP]
    clear hop hOP
    go_wp2_with fail
    refine (PY.out u HWu.out).mono ?_
    rintro q w2 ⟨o, hE, hR⟩
    have hE1 := hE.e (by have := HR.out; omega)
    clear hE
    cases o with
    | bad m =>
     obtain ⟨k3, hm, hk3, rfl, hb2⟩ := hR
     subst hm
     rw [← tl] at hE1
     have HED := Lib.hid (HJ.out.fails HOP.out hE1)
     have HZ2 := Lib.hid (HZu.out.below hb2)
     have HB2' := Lib.hid (HBu.out.trans (hb2.mono HBu.out.size))
     have HK3 := Lib.hid hk3
     clear hb2 hk3 hE1
     obtain ⟨y0, y1, y2, y3, fz⟩ := HZ2.out
     have lt0 := Zx.lt HZ2.out
     have lt1 : w.heap.size < w2.heap.size + 1 := by omega
     have lt2 : w.heap.size < w2.heap.size + 1 + 1 := by omega
     go_wp2_with fail
     refine bodyPost_ret (res_ex3 rfl _ _ _ rfl _ _ _ _ (keepc (bal (bref _) _) (st4_0 HZ2.out _ _ _ _)) (keepc (bal (bref _) _) (st4_1 HZ2.out _ _ _ _)) (keepc (bal (bref _) _) (st4_2 HZ2.out _ _ _ _)) (keepc (bal (bref _) _) (st4_3 HZ2.out _ _ _ _)) _ _ rfl rfl) rfl ?_
     refine ⟨_, Or.inl ⟨by have := HR.out; omega, HED.out⟩, ?_⟩
     exact RD.bad (W := w2.alloc (.cells #[.int .i64 0, .int .i64 0, .string ⟨#[]⟩, .slice none 0 0] 27)) HK3.out (by repeat (first | exact Ag.refl _ _ | refine Ag.set ?_ _ _ | refine Ag.alloc ?_ _)) (bal HB2'.out _)
    | ok y ky m =>
     obtain ⟨k3, so2, cap2, hm, hk3, rfl, hY, hcy, hb2⟩ := hR
     subst hm
     have hles := hE1.siz
     rw [← tl] at hE1
     have HE1 := Lib.hid hE1
     have HK3 : Hid (k3 ≤ n ∧ k' < k3) := Lib.hid ⟨by rw [← HN.out]; exact hk3, by rw [List.length_drop, List.length_drop] at hles; have := siz_pos y; omega⟩
     have HV2 := Lib.hid (HVu.out.below hb2)
     have HX2 := Lib.hid (HXu.out.below hb2)
     have HZ2 := Lib.hid (HZu.out.below hb2)
     have HB2' := Lib.hid (HBu.out.trans (hb2.mono HBu.out.size))
     have HBB2 := Lib.hid (HBBu.out.trans (hb2.mono (by have := HSu.out; omega)))
     have HY := Lib.hid hY
     have HCY := Lib.hid hcy
     have HS2 : Hid (b9 + 1 ≤ w2.heap.size ∧ u.heap.size ≤ w2.heap.size) := Lib.hid ⟨by have := hb2.size; have := HSu.out; omega, hb2.size⟩
     have HUU : Hid (W2.heap.size ≤ u.heap.size) := Lib.hid (by have h1 := HS21.out; have h2 := HSu.out; omega)
     -- the row of both operands
     have hrow := Xv.two (n := W2.heap.size) (b := b9) (W := w2.alloc (.cells #[.int .i64 y.op, .int .i64 y.n, .string (str y.s), .slice so2 y.args.length cap2] 27)) (e, so, cap) (y, so2, cap2) (HX2.out.below (bal (bref _) _)) HC.out ((hY.below (bal (bref _) _)).xv (fun g hg => by cases hg; have := HSu.out; omega) HUU.out) hcy (by have h1 := HS2.out; have h2 := HUU.out; simp; omega) (by have := HS2.out; simp; omega) 27
     rw [show (w2.alloc (.cells #[.int .i64 y.op, .int .i64 y.n, .string (str y.s), .slice so2 y.args.length cap2] 27)).heap.size = w2.heap.size + 1 by simp] at hrow
     have HRW := Lib.hid hrow
     have HEE : Hid (ExprsAt so e.args w2) := Lib.hid (HX2.out.xa.ex)
     clear hb2 hY hcy hk3 hE1 hles hrow
     have n0 : w.heap.size < b9 := HL9.out
     have n1 : b9 < w2.heap.size := by have := HS2.out; omega
     have n2 : b9 < w2.heap.size + 1 := by omega
     have n3 : b9 < w2.heap.size + 1 + 1 := by omega
     have n4 : w.heap.size < w2.heap.size := by omega
     have n5 : w.heap.size < w2.heap.size + 1 := by omega
     have n6 : w.heap.size < w2.heap.size + 1 + 1 := by omega
     have n7 : ¬ (w.heap.size = b9) := by omega
     have n8 : ¬ (b9 = w.heap.size) := by omega
     obtain ⟨v0, v1, v2, v3, vf⟩ := HV2.out
     by_cases h4 : r = 4
     ·subst h4
      have HED := Lib.hid (J.last HJ.out HOP.out HE1.out)
      rw [HOPE.out] at HED
      obtain ⟨y0, y1, y2, y3, fz⟩ := HZ2.out
      have HZZ := Lib.hid (fun x0 x1 x2 x3 => HZ2.out.set4 (b' := b9) (by omega) x0 x1 x2 x3)
      go_wp2_with fail
      refine bodyPost_ret (res_ex3 rfl _ _ _ rfl _ _ _ _ (keepc (bal (bref _) _) (keepc (bal (bref _) _) (st4_0 (HZZ.out _ _ _ _) _ _ _ _))) (keepc (bal (bref _) _) (keepc (bal (bref _) _) (st4_1 (HZZ.out _ _ _ _) _ _ _ _))) (keepc (bal (bref _) _) (keepc (bal (bref _) _) (st4_2 (HZZ.out _ _ _ _) _ _ _ _))) (keepc (bal (bref _) _) (keepc (bal (bref _) _) (st4_3 (HZZ.out _ _ _ _) _ _ _ _))) _ _ rfl rfl) rfl ?_
      refine ⟨_, Or.inl ⟨by omega, HED.out⟩, ?_⟩
      have hag : Ag b9 ((((((w2.setCell ⟨b9, 0, none⟩ (.int .i64 OP)).setCell ⟨b9, 1, none⟩ (.int .i64 0)).setCell ⟨b9, 2, none⟩ (.string ⟨#[]⟩)).setCell ⟨b9, 3, none⟩ (.slice (some ⟨w2.heap.size + 1, 0, none⟩) 2 2)).alloc (.cells #[.int .i64 y.op, .int .i64 y.n, .string (str y.s), .slice so2 y.args.length cap2] 27)).alloc (.cells #[.int .i64 e.op, .int .i64 e.n, .string (str e.s), .slice so e.args.length cap, .int .i64 y.op, .int .i64 y.n, .string (str y.s), .slice so2 y.args.length cap2] 27)) ((w2.alloc (.cells #[.int .i64 y.op, .int .i64 y.n, .string (str y.s), .slice so2 y.args.length cap2] 27)).alloc (.cells #[.int .i64 e.op, .int .i64 e.n, .string (str e.s), .slice so e.args.length cap, .int .i64 y.op, .int .i64 y.n, .string (str y.s), .slice so2 y.args.length cap2] 27)) := ((ag4 b9 w2 _ _ _ _).alloc _).alloc _
      exact RD.ok (W := ((((((w2.setCell ⟨b9, 0, none⟩ (.int .i64 OP)).setCell ⟨b9, 1, none⟩ (.int .i64 0)).setCell ⟨b9, 2, none⟩ (.string ⟨#[]⟩)).setCell ⟨b9, 3, none⟩ (.slice (some ⟨w2.heap.size + 1, 0, none⟩) 2 2)).alloc (.cells #[.int .i64 y.op, .int .i64 y.n, .string (str y.s), .slice so2 y.args.length cap2] 27)).alloc (.cells #[.int .i64 e.op, .int .i64 e.n, .string (str e.s), .slice so e.args.length cap, .int .i64 y.op, .int .i64 y.n, .string (str y.s), .slice so2 y.args.length cap2] 27))) (e := .mk OP 0 [] [e, y]) (k' := k3) (by rw [HN.out]; exact HK3.out.1) ((hag.xv HRW.out).xa.mono (by rw [HSZ.out]; exact Nat.le_refl _)) (fun h => by cases h) (((ag4 w.heap.size _ _ _ _ _).alloc _).alloc _) (hag.below (bal (bal HB2'.out _) _) (by omega))
     ·have g4 : ((r : Int) == 4) = false := by rw [beq_eq_false_iff_ne]; omega
      have HJ2 := Lib.hid (HJ.out.more HOP.out h4 HE1.out)
      rw [HOPE.out] at HJ2
      go_wp2_with fail
      go_roundw
      case rel =>
       have hag : Ag b9 ((((((w2.setCell ⟨b9, 0, none⟩ (.int .i64 OP)).setCell ⟨b9, 1, none⟩ (.int .i64 0)).setCell ⟨b9, 2, none⟩ (.string ⟨#[]⟩)).setCell ⟨b9, 3, none⟩ (.slice (some ⟨w2.heap.size + 1, 0, none⟩) 2 2)).alloc (.cells #[.int .i64 y.op, .int .i64 y.n, .string (str y.s), .slice so2 y.args.length cap2] 27)).alloc (.cells #[.int .i64 e.op, .int .i64 e.n, .string (str e.s), .slice so e.args.length cap, .int .i64 y.op, .int .i64 y.n, .string (str y.s), .slice so2 y.args.length cap2] 27)) ((w2.alloc (.cells #[.int .i64 y.op, .int .i64 y.n, .string (str y.s), .slice so2 y.args.length cap2] 27)).alloc (.cells #[.int .i64 e.op, .int .i64 e.n, .string (str e.s), .slice so e.args.length cap, .int .i64 y.op, .int .i64 y.n, .string (str y.s), .slice so2 y.args.length cap2] 27)) := ((ag4 b9 w2 _ _ _ _).alloc _).alloc _
       refine ⟨k3, .mk OP 0 [] [e, y], r, some ⟨w2.heap.size + 1, 0, none⟩, 2, rfl, HK3.out.1, by have := HK3.out.2; have := HKK.out; omega, HJ2.out, ?_, hag.xv HRW.out, (fun h => by cases h), hag.zx (HZ2.out.below (bal (bal (bref _) _) _)) (by omega), hag.below (bal' (bal' HBB2.out _ (by have := HSW.out; omega)) _ (by have := HSW.out; omega)) (Nat.le_refl _)⟩
       exact (vx_of_v HV2.out (.mk OP 0 [] [e, y]) (some ⟨w2.heap.size + 1, 0, none⟩) 2).below (bal (bal (bref _) _) _)
      case measure => simp [RowKit.intOf]; have := HK3.out; omega
theorem rparseK (wb : World) (ao : Option Addr) (c : Nat) (l : List Tok) (D : Dc wb ao l) : ∀ (N r k : Nat), r ≤ 8 → k ≤ l.length → (l.length - k) * 10 + (9 - r) ≤ N → PC wb ao c l k r := by
 intro N
 induction N with
 | zero => intro r k hr hk hm; omega
 | succ N ih =>
  intro r k hr hk hm y z w hy hz hW
  subst hy
  subst hz
  have ihg : ∀ k2, k < k2 → k2 ≤ l.length → ∀ r2, r2 ≤ 8 → PC wb ao c l k2 r2 := fun k2 h1 h2 r2 h3 => ih r2 k2 h3 h2 (by omega)
  have ihu : r ≤ 7 → PC wb ao c l k (r + 1) := fun h => ih (r + 1) k (by omega) hk (by omega)
  have hr9 : r = 0 ∨ r = 3 ∨ r = 7 ∨ r = 8 ∨ (r = 1 ∨ r = 2 ∨ r = 4 ∨ r = 5 ∨ r = 6) := by omega
  rcases hr9 with rfl | rfl | rfl | rfl | hr5
  ·cases h0 : isT 5 wIf (l.drop k) with
   | true => exact rp_if wb ao c l D k w hk hW h0 (fun k2 h1 h2 => ihg k2 h1 h2 0 (by omega))
   | false => exact rp_zero wb ao c l D k w hk hW h0 (ihu (by omega))
  ·cases h0 : isT 5 wNot (l.drop k) with
   | true => exact rp_not wb ao c l D k w hk hW h0 (ihg (k + 1) (by omega) (isT_len h0) 3 (by omega))
   | false => exact rp_up3 wb ao c l D k w hk hW h0 (ihu (by omega))
  ·cases h0 : isT 4 [45] (l.drop k) with
   | true => exact rp_neg wb ao c l D k w hk hW h0 (ihg (k + 1) (by omega) (isT_len h0) 7 (by omega))
   | false => exact rp_up7 wb ao c l D k w hk hW h0 (ihu (by omega))
  ·exact rp_prim wb ao c l D k w hk hW (fun k2 h1 h2 => ihg k2 h1 h2 0 (by omega))
  ·exact rp_bin wb ao c l D k r w hk hr5 hW (ihu (by omega)) (fun k2 h1 h2 => ihg k2 h1 h2 (r + 1) (by omega))
end Go.Proofs.YtplkphihmfhciaaGreatDoor
