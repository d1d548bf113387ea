/-
  Expressions: the contract of the document's own primary.
-/
import Derived.Test.YtplkphihmfhciaaGreatDoorMM
namespace Go.Proofs.YtplkphihmfhciaaGreatDoor
open Go Go.RowKit Go.Lib Go.Shelf WM TM EM

theorem bal' {n : Nat} {w w' : World} (h : Below n w w') (o : Obj) (hn : n ≤ w.heap.size := by exact Nat.le_refl _) : Below n w (w'.alloc o) := h.trans ((bal (bref w') o).mono (Nat.le_trans hn h.size))
theorem isT_kind {l : List Tok} {k : Nat} {a b : Int} {x : List UInt8} (h : (l.getD k T0).1 = a) (hab : a ≠ b) : isT b x (l.drop k) = false := by
 rcases Nat.lt_or_ge k l.length with c | c
 ·rw [isT_at b x l k c, h, beq_eq_false_iff_ne.2 hab, Bool.false_and]
 ·exact isT_ge b x l k c
theorem isT_kd {l : List Tok} {k : Nat} {b : Int} {x : List UInt8} (h : isT b x (l.drop k) = true) : (l.getD k T0).1 = b := by
 rw [isT_at b x l k (isT_len h), Bool.and_eq_true] at h
 exact eq_of_beq h.1
theorem nb_parts {l : List Tok} {k : Nat} (h : nbB l k = true) : (l.getD k T0).1 = 2 ∧ nOk (l.getD k T0).2.2 = true := by
 unfold nbB at h
 rw [Bool.and_eq_true, decide_eq_true_eq] at h
 exact h
theorem p_num {l : List Tok} {k : Nat} (h : nbB l k = true) : P (l.drop k) (.ok (.mk 1 (nV (l.getD k T0).2.2) [] []) 8 (l.drop (k + 1))) := by
 obtain ⟨h1, h2⟩ := nb_parts h
 refine P.single (isT_kind h1 (by decide)) (isT_kind h1 (by decide)) (isT_kind h1 (by decide)) (isT_kind h1 (by decide)) ?_
 rw [single_T]
 unfold sgO
 rw [if_neg (by rw [h1]; decide), if_neg (by rw [h1]; decide), if_pos ⟨h1, h2⟩]
theorem p_cash {l : List Tok} {k : Nat} (h : isT 4 [36] (l.drop k) = true) (hn : nbB l (k + 1) = true) : P (l.drop k) (.ok (.mk 2 (nV (l.getD (k + 1) T0).2.2) [] []) 8 (l.drop (k + 2))) := by
 obtain ⟨h1, h2⟩ := nb_parts hn
 refine P.cash h ?_
 rw [tl, numb_T, if_pos ⟨h1, h2⟩]
theorem p_cash_bad {l : List Tok} {k : Nat} (h : isT 4 [36] (l.drop k) = true) (hn : nbB l (k + 1) = false) : P (l.drop k) (.bad (l.drop (k + 1))) := by
 refine P.cash h ?_
 rw [tl, numb_T, if_neg (fun x => by unfold nbB at hn; rw [decide_eq_true x.1, x.2] at hn; cases hn)]
theorem p_name {l : List Tok} {k : Nat} (h : (l.getD k T0).1 = 1) : P (l.drop k) (.ok (.mk 4 0 (l.getD k T0).2.2 []) 8 (l.drop (k + 1))) := by
 refine P.single (isT_kind h (by decide)) (isT_kind h (by decide)) (isT_kind h (by decide)) (isT_kind h (by decide)) ?_
 rw [single_T]
 unfold sgO
 rw [if_neg (by rw [h]; decide), if_pos h]
theorem p_rate {l : List Tok} {k : Nat} (h : (l.getD k T0).1 = 3) (hq : qOk (l.getD k T0).2.2 = true) : P (l.drop k) (.ok (.mk 3 (qV (l.getD k T0).2.2) [] []) 8 (l.drop (k + 1))) := by
 refine P.single (isT_kind h (by decide)) (isT_kind h (by decide)) (isT_kind h (by decide)) (isT_kind h (by decide)) ?_
 rw [single_T]
 unfold sgO
 rw [if_pos h, if_pos hq]
theorem p_rate_bad {l : List Tok} {k : Nat} (h : (l.getD k T0).1 = 3) (hq : qOk (l.getD k T0).2.2 = false) : P (l.drop k) (.bad (l.drop k)) := by
 refine P.single (isT_kind h (by decide)) (isT_kind h (by decide)) (isT_kind h (by decide)) (isT_kind h (by decide)) ?_
 rw [single_T]
 unfold sgO
 rw [if_pos h, if_neg (by rw [hq]; decide)]
theorem p_none {l : List Tok} {k : Nat} (h1 : isT 4 [40] (l.drop k) = false) (h2 : isT 4 [36] (l.drop k) = false) (h3 : isT 5 wMin (l.drop k) = false) (h4 : isT 5 wMax (l.drop k) = false) (hn : nbB l k = false) (k1 : (l.getD k T0).1 ≠ 1) (k3 : (l.getD k T0).1 ≠ 3) : P (l.drop k) (.bad (l.drop k)) := by
 refine P.single h1 h2 h3 h4 ?_
 rw [single_T]
 unfold sgO
 rw [if_neg k3, if_neg k1, if_neg (fun x => by unfold nbB at hn; rw [decide_eq_true x.1, x.2] at hn; cases hn)]
set_option maxRecDepth 100000 in
set_option maxHeartbeats 16000000 in
theorem rprimary (wb : World) (ao : Option Addr) (c : Nat) (l : List Tok) (D : Dc wb ao l) (k : Nat) (w : World) (hk : k ≤ l.length) (hW : Below wb.heap.size wb w) (ih : ∀ k2, k < k2 → k2 ≤ l.length → PC wb ao c l k2 0) :
  Calls Tryz.prog 52 #[.slice ao l.length c, .int .i64 (k : Int)] w fun q w' => ∃ o, P (l.drop k) o ∧ RD l w o q w' := by
 have HW := Lib.hid hW
 have HD := Lib.hid D
 have hlen := D.len
 have CH := Lib.hid (fun op W hlt hW => rchosen wb ao c l D k op W hlt hW ih)
 have IH := Lib.hid (fun hlt => ih (k + 1) (by omega) hlt)
 have IS := Lib.hid (fun kd x W hW => ris ao c l k kd x W (D.lie.keep hW) (by omega) (by omega))
 have IT := Lib.hid (fun j (hj : j ≤ 1001) kd x W hW => ris ao c l j kd x W (D.lie.keep hW) (by omega) (by omega))
 have NU := Lib.hid (fun j (hj : j ≤ 1001) W hW => rnumber ao c l j W (D.lie.keep hW) (by omega) (by omega) (fun t ht => D.txt t ht))
 have HK := Lib.hid hk
 obtain ⟨n, hn⟩ : ∃ n, l.length = n := ⟨_, rfl⟩
 have HN := Lib.hid hn
 rw [hn] at CH IH IS IT NU hlen hk ⊢
 have hkI : (k : Int) ≤ 1000 := by omega
 clear ih D hW hn
 cases hnb : nbB l k with
 | true =>
  have HP := Lib.hid (p_num hnb)
  have hkl := nbB_len hnb
  have NU0 := NU.out k (by omega)
  rw [hnb] at NU0
  have NU1 := Lib.hid NU0
  have HKL := Lib.hid hkl
  clear NU0 hnb hkl NU IT IS CH IH
  go_enter Tryz.func52, Tryz.ntmps52
  go_wp2_with fail
  obtain ⟨W2, hW2⟩ : ∃ W2, (w.alloc (.cells #[.int .i64 0, .int .i64 0, .string ⟨#[]⟩, .slice none 0 0] 27)) = W2 := ⟨_, rfl⟩
  have hz0 : Zx w.heap.size W2 := by rw [← hW2]; exact Zx.new w
  have hb2 : Below w.heap.size w W2 := by rw [← hW2]; exact bal (bref _) _
  have hsz : W2.heap.size = w.heap.size + 1 := by rw [← hW2]; simp
  rw [hW2]
  have Z0 := Lib.hid hz0
  have HB2 := Lib.hid hb2
  have HSZ := Lib.hid hsz
  have HWB := Lib.hid (HW.out.trans (hb2.mono HW.out.size))
  clear hW2 hz0 hb2 hsz
  refine (NU1.out W2 HWB.out).mono ?_
  rintro q w1 ⟨v, rfl, hv, hw1⟩
  subst hw1
  have HV := Lib.hid (hv (by first | rfl | trivial))
  clear hv
  obtain ⟨y0, y1, y2, y3, fz⟩ := Z0.out
  have lt0 := Zx.lt Z0.out
  have lt1 : w.heap.size < W2.heap.size + 1 := by omega
  have lt2 : w.heap.size < W2.heap.size + 1 + 1 := by omega
  go_wp2_with fail
  refine bodyPost_ret (res_ex3 rfl _ _ _ rfl _ _ _ _ (st4_0 Z0.out _ _ _ _) (st4_1 Z0.out _ _ _ _) (st4_2 Z0.out _ _ _ _) (st4_3 Z0.out _ _ _ _) _ _ rfl rfl) rfl ?_
  refine ⟨_, HP.out, ?_⟩
  rw [← HV.out]
  exact RD.ok (W := W2) (e := .mk 1 v [] []) (k' := k + 1) HKL.out (Xa.nil _ _ _) (fun _ => rfl) (by repeat (first | exact Ag.refl _ _ | refine Ag.set ?_ _ _ | refine Ag.alloc ?_ _)) HB2.out
 | false =>
  have NU0 := NU.out k (by omega)
  rw [hnb] at NU0
  have NU1 := Lib.hid NU0
  clear NU0
  cases h36 : isT 4 [36] (l.drop k) with
  | true =>
   have hkl := isT_len h36
   cases hn2 : nbB l (k + 1) with
   | true =>
    have HP := Lib.hid (p_cash h36 hn2)
    have NU0 := NU.out (k + 1) (by omega)
    rw [hn2, show ((k + 1 : Nat) : Int) = (k : Int) + 1 by omega] at NU0
    have NU2 := Lib.hid NU0
    have HKL := Lib.hid (nbB_len hn2)
    clear NU0 hnb hkl hn2 NU IT CH IH
    go_enter Tryz.func52, Tryz.ntmps52
    go_wp2_with fail
    obtain ⟨W2, hW2⟩ : ∃ W2, (w.alloc (.cells #[.int .i64 0, .int .i64 0, .string ⟨#[]⟩, .slice none 0 0] 27)) = W2 := ⟨_, rfl⟩
    have hz0 : Zx w.heap.size W2 := by rw [← hW2]; exact Zx.new w
    have hb2 : Below w.heap.size w W2 := by rw [← hW2]; exact bal (bref _) _
    have hsz : W2.heap.size = w.heap.size + 1 := by rw [← hW2]; simp
    rw [hW2]
    have Z0 := Lib.hid hz0
    have HB2 := Lib.hid hb2
    have HSZ := Lib.hid hsz
    have HWB := Lib.hid (HW.out.trans (hb2.mono HW.out.size))
    clear hW2 hz0 hb2 hsz
    have I10 := IS.out 4 [36] W2 HWB.out
    rw [h36] at I10
    have I1 := Lib.hid I10
    clear I10
    refine (NU1.out W2 HWB.out).mono ?_
    rintro q w1 ⟨v0, rfl, _, hw1⟩
    subst hw1
    obtain ⟨y0, y1, y2, y3, fz⟩ := Z0.out
    have lt0 := Zx.lt Z0.out
    have lt1 : w.heap.size < W2.heap.size + 1 := by omega
    have lt2 : w.heap.size < W2.heap.size + 1 + 1 := by omega
    go_wp2_with fail
    refine I1.out.mono ?_
    rintro q w1 ⟨rfl, hw1⟩
    subst hw1
    go_wp2_with fail
    refine (NU2.out W2 HWB.out).mono ?_
    rintro q w1 ⟨v, rfl, hv, hw1⟩
    subst hw1
    have HV := Lib.hid (hv (by first | rfl | trivial))
    clear hv
    go_wp2_with fail
    refine bodyPost_ret (res_ex3 rfl _ _ _ rfl _ _ _ _ (st4_0 Z0.out _ _ _ _) (st4_1 Z0.out _ _ _ _) (st4_2 Z0.out _ _ _ _) (st4_3 Z0.out _ _ _ _) _ _ rfl rfl) rfl ?_
    refine ⟨_, HP.out, ?_⟩
    rw [← HV.out]
    exact RD.ok (W := W2) (e := .mk 2 v [] []) (k' := k + 2) HKL.out (Xa.nil _ _ _) (fun _ => rfl) (by repeat (first | exact Ag.refl _ _ | refine Ag.set ?_ _ _ | refine Ag.alloc ?_ _)) HB2.out
   | false =>
    have HP := Lib.hid (p_cash_bad h36 hn2)
    have NU0 := NU.out (k + 1) (by omega)
    rw [hn2, show ((k + 1 : Nat) : Int) = (k : Int) + 1 by omega] at NU0
    have NU2 := Lib.hid NU0
    have HKL := Lib.hid hkl
    clear NU0 hnb hkl hn2 NU IT CH IH
    go_enter Tryz.func52, Tryz.ntmps52
    go_wp2_with fail
    obtain ⟨W2, hW2⟩ : ∃ W2, (w.alloc (.cells #[.int .i64 0, .int .i64 0, .string ⟨#[]⟩, .slice none 0 0] 27)) = W2 := ⟨_, rfl⟩
    have hz0 : Zx w.heap.size W2 := by rw [← hW2]; exact Zx.new w
    have hb2 : Below w.heap.size w W2 := by rw [← hW2]; exact bal (bref _) _
    have hsz : W2.heap.size = w.heap.size + 1 := by rw [← hW2]; simp
    rw [hW2]
    have Z0 := Lib.hid hz0
    have HB2 := Lib.hid hb2
    have HSZ := Lib.hid hsz
    have HWB := Lib.hid (HW.out.trans (hb2.mono HW.out.size))
    clear hW2 hz0 hb2 hsz
    have I10 := IS.out 4 [36] W2 HWB.out
    rw [h36] at I10
    have I1 := Lib.hid I10
    clear I10
    refine (NU1.out W2 HWB.out).mono ?_
    rintro q w1 ⟨v0, rfl, _, hw1⟩
    subst hw1
    obtain ⟨y0, y1, y2, y3, fz⟩ := Z0.out
    have lt0 := Zx.lt Z0.out
    have lt1 : w.heap.size < W2.heap.size + 1 := by omega
    have lt2 : w.heap.size < W2.heap.size + 1 + 1 := by omega
    go_wp2_with fail
    refine I1.out.mono ?_
    rintro q w1 ⟨rfl, hw1⟩
    subst hw1
    go_wp2_with fail
    refine (NU2.out W2 HWB.out).mono ?_
    rintro q w1 ⟨v, rfl, hv, hw1⟩
    subst hw1
    clear hv
    go_wp2_with fail
    refine bodyPost_ret (res_ex3 rfl _ _ _ rfl _ _ _ _ (st4_0 Z0.out _ _ _ _) (st4_1 Z0.out _ _ _ _) (st4_2 Z0.out _ _ _ _) (st4_3 Z0.out _ _ _ _) _ _ rfl rfl) rfl ?_
    refine ⟨_, HP.out, ?_⟩
    exact RD.bad (W := W2) (k' := k + 1) HKL.out (by repeat (first | exact Ag.refl _ _ | refine Ag.set ?_ _ _ | refine Ag.alloc ?_ _)) HB2.out
  | false =>
   cases hmn : isT 5 wMin (l.drop k) with
   | true =>
    have hkl := isT_len hmn
    have HM := Lib.hid hmn
    have CK := Lib.hid (fun W hW => CH.out 17 W (by rw [← HN.out]; exact hkl) hW)
    clear hnb hkl NU IT CH IH
    go_enter Tryz.func52, Tryz.ntmps52
    go_wp2_with fail
    obtain ⟨W2, hW2⟩ : ∃ W2, (w.alloc (.cells #[.int .i64 0, .int .i64 0, .string ⟨#[]⟩, .slice none 0 0] 27)) = W2 := ⟨_, rfl⟩
    have hz0 : Zx w.heap.size W2 := by rw [← hW2]; exact Zx.new w
    have hb2 : Below w.heap.size w W2 := by rw [← hW2]; exact bal (bref _) _
    have hsz : W2.heap.size = w.heap.size + 1 := by rw [← hW2]; simp
    rw [hW2]
    have Z0 := Lib.hid hz0
    have HB2 := Lib.hid hb2
    have HSZ := Lib.hid hsz
    have HWB := Lib.hid (HW.out.trans (hb2.mono HW.out.size))
    clear hW2 hz0 hb2 hsz
    have I10 := IS.out 4 [36] W2 HWB.out
    rw [h36] at I10
    have I1 := Lib.hid I10
    clear I10
    have I20 := IS.out 5 wMin W2 HWB.out
    rw [hmn] at I20
    have I2 := Lib.hid I20
    clear I20
    refine (NU1.out W2 HWB.out).mono ?_
    rintro q w1 ⟨v0, rfl, _, hw1⟩
    subst hw1
    obtain ⟨y0, y1, y2, y3, fz⟩ := Z0.out
    have lt0 := Zx.lt Z0.out
    have lt1 : w.heap.size < W2.heap.size + 1 := by omega
    have lt2 : w.heap.size < W2.heap.size + 1 + 1 := by omega
    go_wp2_with fail
    refine I1.out.mono ?_
    rintro q w1 ⟨rfl, hw1⟩
    subst hw1
    go_wp2_with fail
    refine I2.out.mono ?_
    rintro q w1 ⟨rfl, hw1⟩
    subst hw1
    go_wp2_with fail
    refine (CK.out W2 HWB.out).mono ?_
    rintro q w1 ⟨o, hQ, hR⟩
    have HQ := Lib.hid hQ
    clear hQ
    cases o with
    | ok e kk m =>
     obtain ⟨k', so, cap, hm, hk', rfl, hX, hc, hb1⟩ := hR
     subst hm
     have Z1 := Lib.hid (Z0.out.below hb1)
     have HB1 := Lib.hid (HB2.out.trans (hb1.mono HB2.out.size))
     have HX := Lib.hid hX
     have HC := Lib.hid hc
     have HK' := Lib.hid hk'
     clear hb1 hX hc hk' lt0 lt1 lt2 y0 y1 y2 y3 fz
     obtain ⟨y0, y1, y2, y3, fz⟩ := Z1.out
     have lt0 := Zx.lt Z1.out
     have lt1 : w.heap.size < w1.heap.size + 1 := by omega
     have lt2 : w.heap.size < w1.heap.size + 1 + 1 := by omega
     go_wp2_with fail
     refine bodyPost_ret (res_ex3 rfl _ _ _ rfl _ _ _ _ (st4_0 Z1.out _ _ _ _) (st4_1 Z1.out _ _ _ _) (st4_2 Z1.out _ _ _ _) (st4_3 Z1.out _ _ _ _) _ _ rfl rfl) rfl ?_
     refine ⟨_, P.min HM.out (by rw [tl]; exact HQ.out), ?_⟩
     exact RD.ok (W := w1) HK'.out (HX.out.mono (by rw [HSZ.out]; exact Nat.le_refl _)) HC.out (by repeat (first | exact Ag.refl _ _ | refine Ag.set ?_ _ _ | refine Ag.alloc ?_ _)) HB1.out
    | bad m =>
     obtain ⟨k', hm, hk', rfl, hb1⟩ := hR
     subst hm
     have Z1 := Lib.hid (Z0.out.below hb1)
     have HB1 := Lib.hid (HB2.out.trans (hb1.mono HB2.out.size))
     have HK' := Lib.hid hk'
     clear hb1 hk' lt0 lt1 lt2 y0 y1 y2 y3 fz
     obtain ⟨y0, y1, y2, y3, fz⟩ := Z1.out
     have lt0 := Zx.lt Z1.out
     have lt1 : w.heap.size < w1.heap.size + 1 := by omega
     have lt2 : w.heap.size < w1.heap.size + 1 + 1 := by omega
     go_wp2_with fail
     refine bodyPost_ret (res_ex3 rfl _ _ _ rfl _ _ _ _ (st4_0 Z1.out _ _ _ _) (st4_1 Z1.out _ _ _ _) (st4_2 Z1.out _ _ _ _) (st4_3 Z1.out _ _ _ _) _ _ rfl rfl) rfl ?_
     refine ⟨_, P.min HM.out (by rw [tl]; exact HQ.out), ?_⟩
     exact RD.bad (W := w1) HK'.out (by repeat (first | exact Ag.refl _ _ | refine Ag.set ?_ _ _ | refine Ag.alloc ?_ _)) HB1.out
   | false =>
    cases hmx : isT 5 wMax (l.drop k) with
    | true =>
     have hkl := isT_len hmx
     have HM := Lib.hid hmx
     have CK := Lib.hid (fun W hW => CH.out 18 W (by rw [← HN.out]; exact hkl) hW)
     clear hnb hkl NU IT CH IH
     go_enter Tryz.func52, Tryz.ntmps52
     go_wp2_with fail
     obtain ⟨W2, hW2⟩ : ∃ W2, (w.alloc (.cells #[.int .i64 0, .int .i64 0, .string ⟨#[]⟩, .slice none 0 0] 27)) = W2 := ⟨_, rfl⟩
     have hz0 : Zx w.heap.size W2 := by rw [← hW2]; exact Zx.new w
     have hb2 : Below w.heap.size w W2 := by rw [← hW2]; exact bal (bref _) _
     have hsz : W2.heap.size = w.heap.size + 1 := by rw [← hW2]; simp
     rw [hW2]
     have Z0 := Lib.hid hz0
     have HB2 := Lib.hid hb2
     have HSZ := Lib.hid hsz
     have HWB := Lib.hid (HW.out.trans (hb2.mono HW.out.size))
     clear hW2 hz0 hb2 hsz
     have I10 := IS.out 4 [36] W2 HWB.out
     rw [h36] at I10
     have I1 := Lib.hid I10
     clear I10
     have I20 := IS.out 5 wMin W2 HWB.out
     rw [hmn] at I20
     have I2 := Lib.hid I20
     clear I20
     have I30 := IS.out 5 wMax W2 HWB.out
     rw [hmx] at I30
     have I3 := Lib.hid I30
     clear I30
     refine (NU1.out W2 HWB.out).mono ?_
     rintro q w1 ⟨v0, rfl, _, hw1⟩
     subst hw1
     obtain ⟨y0, y1, y2, y3, fz⟩ := Z0.out
     have lt0 := Zx.lt Z0.out
     have lt1 : w.heap.size < W2.heap.size + 1 := by omega
     have lt2 : w.heap.size < W2.heap.size + 1 + 1 := by omega
     go_wp2_with fail
     refine I1.out.mono ?_
     rintro q w1 ⟨rfl, hw1⟩
     subst hw1
     go_wp2_with fail
     refine I2.out.mono ?_
     rintro q w1 ⟨rfl, hw1⟩
     subst hw1
     go_wp2_with fail
     refine I3.out.mono ?_
     rintro q w1 ⟨rfl, hw1⟩
     subst hw1
     go_wp2_with fail
     refine (CK.out W2 HWB.out).mono ?_
     rintro q w1 ⟨o, hQ, hR⟩
     have HQ := Lib.hid hQ
     clear hQ
     cases o with
     | ok e kk m =>
      obtain ⟨k', so, cap, hm, hk', rfl, hX, hc, hb1⟩ := hR
      subst hm
      have Z1 := Lib.hid (Z0.out.below hb1)
      have HB1 := Lib.hid (HB2.out.trans (hb1.mono HB2.out.size))
      have HX := Lib.hid hX
      have HC := Lib.hid hc
      have HK' := Lib.hid hk'
      clear hb1 hX hc hk' lt0 lt1 lt2 y0 y1 y2 y3 fz
      obtain ⟨y0, y1, y2, y3, fz⟩ := Z1.out
      have lt0 := Zx.lt Z1.out
      have lt1 : w.heap.size < w1.heap.size + 1 := by omega
      have lt2 : w.heap.size < w1.heap.size + 1 + 1 := by omega
      go_wp2_with fail
      refine bodyPost_ret (res_ex3 rfl _ _ _ rfl _ _ _ _ (st4_0 Z1.out _ _ _ _) (st4_1 Z1.out _ _ _ _) (st4_2 Z1.out _ _ _ _) (st4_3 Z1.out _ _ _ _) _ _ rfl rfl) rfl ?_
      refine ⟨_, P.max HM.out (by rw [tl]; exact HQ.out), ?_⟩
      exact RD.ok (W := w1) HK'.out (HX.out.mono (by rw [HSZ.out]; exact Nat.le_refl _)) HC.out (by repeat (first | exact Ag.refl _ _ | refine Ag.set ?_ _ _ | refine Ag.alloc ?_ _)) HB1.out
     | bad m =>
      obtain ⟨k', hm, hk', rfl, hb1⟩ := hR
      subst hm
      have Z1 := Lib.hid (Z0.out.below hb1)
      have HB1 := Lib.hid (HB2.out.trans (hb1.mono HB2.out.size))
      have HK' := Lib.hid hk'
      clear hb1 hk' lt0 lt1 lt2 y0 y1 y2 y3 fz
      obtain ⟨y0, y1, y2, y3, fz⟩ := Z1.out
      have lt0 := Zx.lt Z1.out
      have lt1 : w.heap.size < w1.heap.size + 1 := by omega
      have lt2 : w.heap.size < w1.heap.size + 1 + 1 := by omega
      go_wp2_with fail
      refine bodyPost_ret (res_ex3 rfl _ _ _ rfl _ _ _ _ (st4_0 Z1.out _ _ _ _) (st4_1 Z1.out _ _ _ _) (st4_2 Z1.out _ _ _ _) (st4_3 Z1.out _ _ _ _) _ _ rfl rfl) rfl ?_
      refine ⟨_, P.max HM.out (by rw [tl]; exact HQ.out), ?_⟩
      exact RD.bad (W := w1) HK'.out (by repeat (first | exact Ag.refl _ _ | refine Ag.set ?_ _ _ | refine Ag.alloc ?_ _)) HB1.out
    | false =>
     cases h40 : isT 4 [40] (l.drop k) with
     | true =>
      have hkl := isT_len h40
      have HM := Lib.hid h40
      have PK0 := IH.out (by rw [← HN.out]; exact hkl)
      unfold PC at PK0
      rw [HN.out] at PK0
      have PK := Lib.hid (fun W hW => PK0 ((k : Int) + 1) 0 W (by omega) rfl hW)
      clear hnb PK0 NU CH IH
      go_enter Tryz.func52, Tryz.ntmps52
      go_wp2_with fail
      obtain ⟨W2, hW2⟩ : ∃ W2, (w.alloc (.cells #[.int .i64 0, .int .i64 0, .string ⟨#[]⟩, .slice none 0 0] 27)) = W2 := ⟨_, rfl⟩
      have hz0 : Zx w.heap.size W2 := by rw [← hW2]; exact Zx.new w
      have hb2 : Below w.heap.size w W2 := by rw [← hW2]; exact bal (bref _) _
      have hsz : W2.heap.size = w.heap.size + 1 := by rw [← hW2]; simp
      rw [hW2]
      have Z0 := Lib.hid hz0
      have HB2 := Lib.hid hb2
      have HSZ := Lib.hid hsz
      have HWB := Lib.hid (HW.out.trans (hb2.mono HW.out.size))
      clear hW2 hz0 hb2 hsz
      have I10 := IS.out 4 [36] W2 HWB.out
      rw [h36] at I10
      have I1 := Lib.hid I10
      clear I10
      have I20 := IS.out 5 wMin W2 HWB.out
      rw [hmn] at I20
      have I2 := Lib.hid I20
      clear I20
      have I30 := IS.out 5 wMax W2 HWB.out
      rw [hmx] at I30
      have I3 := Lib.hid I30
      clear I30
      have I40 := IS.out 4 [40] W2 HWB.out
      rw [h40] at I40
      have I4 := Lib.hid I40
      clear I40
      refine (NU1.out W2 HWB.out).mono ?_
      rintro q w1 ⟨v0, rfl, _, hw1⟩
      subst hw1
      obtain ⟨y0, y1, y2, y3, fz⟩ := Z0.out
      have lt0 := Zx.lt Z0.out
      have lt1 : w.heap.size < W2.heap.size + 1 := by omega
      have lt2 : w.heap.size < W2.heap.size + 1 + 1 := by omega
      go_wp2_with fail
      refine I1.out.mono ?_
      rintro q w1 ⟨rfl, hw1⟩
      subst hw1
      go_wp2_with fail
      refine I2.out.mono ?_
      rintro q w1 ⟨rfl, hw1⟩
      subst hw1
      go_wp2_with fail
      refine I3.out.mono ?_
      rintro q w1 ⟨rfl, hw1⟩
      subst hw1
      go_wp2_with fail
      refine I4.out.mono ?_
      rintro q w1 ⟨rfl, hw1⟩
      subst hw1
      go_wp2_with fail
      refine (PK.out W2 HWB.out).mono ?_
      rintro q w1 ⟨o, hE, hR⟩
      have HE := Lib.hid (show E 0 (l.drop k).tail o by rw [tl]; exact hE.e (by omega))
      clear hE
      cases o with
      | ok e kk m =>
       obtain ⟨k', so, cap, hm, hk', rfl, hX, hc, hb1⟩ := hR
       subst hm
       have Z1 := Lib.hid (Z0.out.below hb1)
       have HB1 := Lib.hid (HB2.out.trans (hb1.mono HB2.out.size))
       have HX := Lib.hid hX
       have HC := Lib.hid hc
       have HK' := Lib.hid hk'
       have HWB1 := Lib.hid (HWB.out.trans (hb1.mono HWB.out.size))
       have hs1 := hb1.size
       have HS1 := Lib.hid hs1
       clear hb1 hX hc hk' lt0 lt1 lt2 y0 y1 y2 y3 fz
       have hk'I : (k' : Int) ≤ 1000 := by have := HK'.out; have := HN.out; omega
       have IC0 := IT.out k' (by omega) 4 [41] (w1.alloc (.cells #[.int .i64 e.op, .int .i64 e.n, .string (str e.s), .slice so e.args.length cap] 27)) (bal' HWB1.out _)
       cases h41 : isT 4 [41] (l.drop k') with
       | true =>
        rw [h41] at IC0
        have IC := Lib.hid IC0
        have HPP := Lib.hid (P.par HM.out HE.out h41)
        have HKL' := Lib.hid (isT_len h41)
        clear IC0 h41
        obtain ⟨y0, y1, y2, y3, fz⟩ := Z1.out
        have lt0 := Zx.lt Z1.out
        have lt1 : w.heap.size < w1.heap.size + 1 := by omega
        have lt2 : w.heap.size < w1.heap.size + 1 + 1 := by omega
        go_wp2_with fail
        refine IC.out.mono ?_
        rintro q w1 ⟨rfl, hw1⟩
        subst hw1
        go_wp2_with fail
        refine bodyPost_ret (res_ex3 rfl _ _ _ rfl _ _ _ _ (keepc (bal (bref _) _) (st4_0 Z1.out _ _ _ _)) (keepc (bal (bref _) _) (st4_1 Z1.out _ _ _ _)) (keepc (bal (bref _) _) (st4_2 Z1.out _ _ _ _)) (keepc (bal (bref _) _) (st4_3 Z1.out _ _ _ _)) _ _ rfl rfl) rfl ?_
        have HPQ := HPP.out
        rw [tl] at HPQ
        refine ⟨_, HPQ, ?_⟩
        exact RD.ok (W := w1.alloc (.cells #[.int .i64 e.op, .int .i64 e.n, .string (str e.s), .slice so e.args.length cap] 27)) (e := e) (k' := k' + 1) HKL'.out ((HX.out.below (bal (bref _) _)).mono (by rw [HSZ.out]; exact Nat.le_refl _)) HC.out (by repeat (first | exact Ag.refl _ _ | refine Ag.set ?_ _ _ | refine Ag.alloc ?_ _)) (bal HB1.out _)
       | false =>
        rw [h41] at IC0
        have IC := Lib.hid IC0
        have HPP := Lib.hid (P.par2 HM.out HE.out h41)
        clear IC0 h41
        obtain ⟨y0, y1, y2, y3, fz⟩ := Z1.out
        have lt0 := Zx.lt Z1.out
        have lt1 : w.heap.size < w1.heap.size + 1 := by omega
        have lt2 : w.heap.size < w1.heap.size + 1 + 1 := by omega
        go_wp2_with fail
        refine IC.out.mono ?_
        rintro q w1 ⟨rfl, hw1⟩
        subst hw1
        go_wp2_with fail
        refine bodyPost_ret (res_ex3 rfl _ _ _ rfl _ _ _ _ (keepc (bal (bref _) _) (st4_0 Z1.out _ _ _ _)) (keepc (bal (bref _) _) (st4_1 Z1.out _ _ _ _)) (keepc (bal (bref _) _) (st4_2 Z1.out _ _ _ _)) (keepc (bal (bref _) _) (st4_3 Z1.out _ _ _ _)) _ _ rfl rfl) rfl ?_
        refine ⟨_, HPP.out, ?_⟩
        exact RD.bad (W := w1.alloc (.cells #[.int .i64 e.op, .int .i64 e.n, .string (str e.s), .slice so e.args.length cap] 27)) HK'.out (by repeat (first | exact Ag.refl _ _ | refine Ag.set ?_ _ _ | refine Ag.alloc ?_ _)) (bal HB1.out _)
      | bad m =>
       obtain ⟨k', hm, hk', rfl, hb1⟩ := hR
       subst hm
       have Z1 := Lib.hid (Z0.out.below hb1)
       have HB1 := Lib.hid (HB2.out.trans (hb1.mono HB2.out.size))
       have HK' := Lib.hid hk'
       clear hb1 hk' lt0 lt1 lt2 y0 y1 y2 y3 fz
       obtain ⟨y0, y1, y2, y3, fz⟩ := Z1.out
       have lt0 := Zx.lt Z1.out
       have lt1 : w.heap.size < w1.heap.size + 1 := by omega
       have lt2 : w.heap.size < w1.heap.size + 1 + 1 := by omega
       go_wp2_with fail
       refine bodyPost_ret (res_ex3 rfl _ _ _ rfl _ _ _ _ (keepc (bal (bref _) _) (st4_0 Z1.out _ _ _ _)) (keepc (bal (bref _) _) (st4_1 Z1.out _ _ _ _)) (keepc (bal (bref _) _) (st4_2 Z1.out _ _ _ _)) (keepc (bal (bref _) _) (st4_3 Z1.out _ _ _ _)) _ _ rfl rfl) rfl ?_
       refine ⟨_, P.par1 HM.out HE.out, ?_⟩
       exact RD.bad (W := w1.alloc (.cells #[.int .i64 0, .int .i64 0, .string ⟨#[]⟩, .slice none 0 0] 27)) HK'.out (by repeat (first | exact Ag.refl _ _ | refine Ag.set ?_ _ _ | refine Ag.alloc ?_ _)) (bal HB1.out _)
     | false =>
      have HNN := Lib.hid (fun k1 k3 => p_none h40 h36 hmn hmx hnb k1 k3)
      clear CH IH IT NU
      by_cases hlt : k < n
      rotate_left
      ·have hkz : ¬ ((k : Int) < (n : Int)) := by omega
       have hT0 : l.getD k T0 = T0 := by rw [List.getD_eq_getElem?_getD, List.getElem?_eq_none (by have := HN.out; omega)]; rfl
       have HP := Lib.hid (HNN.out (by rw [hT0]; decide) (by rw [hT0]; decide))
       clear hT0 HNN hnb
       go_enter Tryz.func52, Tryz.ntmps52
       go_wp2_with fail
       obtain ⟨W2, hW2⟩ : ∃ W2, (w.alloc (.cells #[.int .i64 0, .int .i64 0, .string ⟨#[]⟩, .slice none 0 0] 27)) = W2 := ⟨_, rfl⟩
       have hz0 : Zx w.heap.size W2 := by rw [← hW2]; exact Zx.new w
       have hb2 : Below w.heap.size w W2 := by rw [← hW2]; exact bal (bref _) _
       have hsz : W2.heap.size = w.heap.size + 1 := by rw [← hW2]; simp
       rw [hW2]
       have Z0 := Lib.hid hz0
       have HB2 := Lib.hid hb2
       have HSZ := Lib.hid hsz
       have HWB := Lib.hid (HW.out.trans (hb2.mono HW.out.size))
       clear hW2 hz0 hb2 hsz
       have I10 := IS.out 4 [36] W2 HWB.out
       rw [h36] at I10
       have I1 := Lib.hid I10
       clear I10
       have I20 := IS.out 5 wMin W2 HWB.out
       rw [hmn] at I20
       have I2 := Lib.hid I20
       clear I20
       have I30 := IS.out 5 wMax W2 HWB.out
       rw [hmx] at I30
       have I3 := Lib.hid I30
       clear I30
       have I40 := IS.out 4 [40] W2 HWB.out
       rw [h40] at I40
       have I4 := Lib.hid I40
       clear I40
       refine (NU1.out W2 HWB.out).mono ?_
       rintro q w1 ⟨v0, rfl, _, hw1⟩
       subst hw1
       obtain ⟨y0, y1, y2, y3, fz⟩ := Z0.out
       have lt0 := Zx.lt Z0.out
       have lt1 : w.heap.size < W2.heap.size + 1 := by omega
       have lt2 : w.heap.size < W2.heap.size + 1 + 1 := by omega
       go_wp2_with fail
       refine I1.out.mono ?_
       rintro q w1 ⟨rfl, hw1⟩
       subst hw1
       go_wp2_with fail
       refine I2.out.mono ?_
       rintro q w1 ⟨rfl, hw1⟩
       subst hw1
       go_wp2_with fail
       refine I3.out.mono ?_
       rintro q w1 ⟨rfl, hw1⟩
       subst hw1
       go_wp2_with fail
       refine I4.out.mono ?_
       rintro q w1 ⟨rfl, hw1⟩
       subst hw1
       go_wp2_with fail
       refine bodyPost_ret (res_ex3 rfl _ _ _ rfl _ _ _ _ (st4_0 Z0.out _ _ _ _) (st4_1 Z0.out _ _ _ _) (st4_2 Z0.out _ _ _ _) (st4_3 Z0.out _ _ _ _) _ _ rfl rfl) rfl ?_
       refine ⟨_, HP.out, ?_⟩
       exact RD.bad (W := W2) HK.out (by repeat (first | exact Ag.refl _ _ | refine Ag.set ?_ _ _ | refine Ag.alloc ?_ _)) HB2.out
      ·have hkz : ((k : Int) < (n : Int)) := by omega
       have HKL : Hid (k + 1 ≤ l.length) := Lib.hid (by have := HN.out; omega)
       obtain ⟨u, hu⟩ : ∃ u, l.getD k T0 = u := ⟨_, rfl⟩
       have hmem := getD_mem' T0 l k (by have := HN.out; omega)
       rw [hu] at hmem
       have hux := HD.out.txt u hmem
       have HU := Lib.hid hu
       obtain ⟨uk, ul, ux⟩ := u
       simp only at hux
       by_cases k1 : uk = 1
       ·have HP := Lib.hid (p_name (l := l) (k := k) (by rw [hu]; exact k1))
        rw [hu] at HP
        subst k1
        clear hnb HNN hmem
        go_enter Tryz.func52, Tryz.ntmps52
        go_wp2_with fail
        obtain ⟨W2, hW2⟩ : ∃ W2, (w.alloc (.cells #[.int .i64 0, .int .i64 0, .string ⟨#[]⟩, .slice none 0 0] 27)) = W2 := ⟨_, rfl⟩
        have hz0 : Zx w.heap.size W2 := by rw [← hW2]; exact Zx.new w
        have hb2 : Below w.heap.size w W2 := by rw [← hW2]; exact bal (bref _) _
        have hsz : W2.heap.size = w.heap.size + 1 := by rw [← hW2]; simp
        rw [hW2]
        have Z0 := Lib.hid hz0
        have HB2 := Lib.hid hb2
        have HSZ := Lib.hid hsz
        have HWB := Lib.hid (HW.out.trans (hb2.mono HW.out.size))
        clear hW2 hz0 hb2 hsz
        obtain ⟨b, off, rfl, hb, c0, c1, c2⟩ := (HD.out.lie.keep HWB.out) k (by have := HN.out; omega)
        rw [hu] at c0 c1 c2
        have I10 := IS.out 4 [36] W2 HWB.out
        rw [h36] at I10
        have I1 := Lib.hid I10
        clear I10
        have I20 := IS.out 5 wMin W2 HWB.out
        rw [hmn] at I20
        have I2 := Lib.hid I20
        clear I20
        have I30 := IS.out 5 wMax W2 HWB.out
        rw [hmx] at I30
        have I3 := Lib.hid I30
        clear I30
        have I40 := IS.out 4 [40] W2 HWB.out
        rw [h40] at I40
        have I4 := Lib.hid I40
        clear I40
        refine (NU1.out W2 HWB.out).mono ?_
        rintro q w1 ⟨v0, rfl, _, hw1⟩
        subst hw1
        obtain ⟨y0, y1, y2, y3, fz⟩ := Z0.out
        have lt0 := Zx.lt Z0.out
        have lt1 : w.heap.size < W2.heap.size + 1 := by omega
        have lt2 : w.heap.size < W2.heap.size + 1 + 1 := by omega
        go_wp2_with fail
        refine I1.out.mono ?_
        rintro q w1 ⟨rfl, hw1⟩
        subst hw1
        go_wp2_with fail
        refine I2.out.mono ?_
        rintro q w1 ⟨rfl, hw1⟩
        subst hw1
        go_wp2_with fail
        refine I3.out.mono ?_
        rintro q w1 ⟨rfl, hw1⟩
        subst hw1
        go_wp2_with fail
        refine I4.out.mono ?_
        rintro q w1 ⟨rfl, hw1⟩
        subst hw1
        go_wp2_with fail
        refine bodyPost_ret (res_ex3 rfl _ _ _ rfl _ _ _ _ (st4_0 Z0.out _ _ _ _) (st4_1 Z0.out _ _ _ _) (st4_2 Z0.out _ _ _ _) (st4_3 Z0.out _ _ _ _) _ _ rfl rfl) rfl ?_
        refine ⟨_, HP.out, ?_⟩
        exact RD.ok (W := W2) (e := .mk 4 0 ux []) (k' := k + 1) HKL.out (Xa.nil _ _ _) (fun _ => rfl) (by repeat (first | exact Ag.refl _ _ | refine Ag.set ?_ _ _ | refine Ag.alloc ?_ _)) HB2.out
       ·have g1 : (uk == 1) = false := by rw [beq_eq_false_iff_ne]; exact k1
        by_cases k3 : uk = 3
        ·have RT0 := fun W => rrate (str ux) (by rw [str_size]; omega) W
         rw [byt_str] at RT0
         cases hq : qOk ux with
         | true =>
          have HP := Lib.hid (p_rate (l := l) (k := k) (by rw [hu]; exact k3) (by rw [hu]; exact hq))
          rw [hu] at HP
          subst k3
          have hqe : rE ux = 0 := of_decide_eq_true hq
          rw [hqe] at RT0
          have HVV : Hid (qV ux = ((rV ux : Nat) : Int)) := Lib.hid rfl
          obtain ⟨V, hV⟩ : ∃ V : Int, ((rV ux : Nat) : Int) = V := ⟨_, rfl⟩
          rw [hV] at RT0 HVV
          have RT := Lib.hid RT0
          clear hnb HNN hmem k1 hq hqe hV RT0
          go_enter Tryz.func52, Tryz.ntmps52
          go_wp2_with fail
          obtain ⟨W2, hW2⟩ : ∃ W2, (w.alloc (.cells #[.int .i64 0, .int .i64 0, .string ⟨#[]⟩, .slice none 0 0] 27)) = W2 := ⟨_, rfl⟩
          have hz0 : Zx w.heap.size W2 := by rw [← hW2]; exact Zx.new w
          have hb2 : Below w.heap.size w W2 := by rw [← hW2]; exact bal (bref _) _
          have hsz : W2.heap.size = w.heap.size + 1 := by rw [← hW2]; simp
          rw [hW2]
          have Z0 := Lib.hid hz0
          have HB2 := Lib.hid hb2
          have HSZ := Lib.hid hsz
          have HWB := Lib.hid (HW.out.trans (hb2.mono HW.out.size))
          clear hW2 hz0 hb2 hsz
          obtain ⟨b, off, rfl, hb, c0, c1, c2⟩ := (HD.out.lie.keep HWB.out) k (by have := HN.out; omega)
          rw [hu] at c0 c1 c2
          have I10 := IS.out 4 [36] W2 HWB.out
          rw [h36] at I10
          have I1 := Lib.hid I10
          clear I10
          have I20 := IS.out 5 wMin W2 HWB.out
          rw [hmn] at I20
          have I2 := Lib.hid I20
          clear I20
          have I30 := IS.out 5 wMax W2 HWB.out
          rw [hmx] at I30
          have I3 := Lib.hid I30
          clear I30
          have I40 := IS.out 4 [40] W2 HWB.out
          rw [h40] at I40
          have I4 := Lib.hid I40
          clear I40
          refine (NU1.out W2 HWB.out).mono ?_
          rintro q w1 ⟨v0, rfl, _, hw1⟩
          subst hw1
          obtain ⟨y0, y1, y2, y3, fz⟩ := Z0.out
          have lt0 := Zx.lt Z0.out
          have lt1 : w.heap.size < W2.heap.size + 1 := by omega
          have lt2 : w.heap.size < W2.heap.size + 1 + 1 := by omega
          go_wp2_with fail
          refine I1.out.mono ?_
          rintro q w1 ⟨rfl, hw1⟩
          subst hw1
          go_wp2_with fail
          refine I2.out.mono ?_
          rintro q w1 ⟨rfl, hw1⟩
          subst hw1
          go_wp2_with fail
          refine I3.out.mono ?_
          rintro q w1 ⟨rfl, hw1⟩
          subst hw1
          go_wp2_with fail
          refine I4.out.mono ?_
          rintro q w1 ⟨rfl, hw1⟩
          subst hw1
          go_wp2_with fail
          refine (RT.out W2).mono ?_
          rintro q w1 ⟨rfl, hw1⟩
          subst hw1
          go_wp2_with fail
          refine bodyPost_ret (res_ex3 rfl _ _ _ rfl _ _ _ _ (st4_0 Z0.out _ _ _ _) (st4_1 Z0.out _ _ _ _) (st4_2 Z0.out _ _ _ _) (st4_3 Z0.out _ _ _ _) _ _ rfl rfl) rfl ?_
          refine ⟨_, HP.out, ?_⟩
          rw [HVV.out]
          exact RD.ok (W := W2) (e := .mk 3 V [] []) (k' := k + 1) HKL.out (Xa.nil _ _ _) (fun _ => rfl) (by repeat (first | exact Ag.refl _ _ | refine Ag.set ?_ _ _ | refine Ag.alloc ?_ _)) HB2.out
         | false =>
          have HP := Lib.hid (p_rate_bad (l := l) (k := k) (by rw [hu]; exact k3) (by rw [hu]; exact hq))
          subst k3
          obtain ⟨X, hX⟩ : ∃ X : Int, rE ux = X := ⟨_, rfl⟩
          obtain ⟨V, hV⟩ : ∃ V : Int, ((rV ux : Nat) : Int) = V := ⟨_, rfl⟩
          have hqe : (X == 0) = false := by rw [beq_eq_false_iff_ne, ← hX]; exact of_decide_eq_false hq
          rw [hX, hV] at RT0
          have RT := Lib.hid RT0
          clear hnb HNN hmem k1 hq hV hX RT0
          go_enter Tryz.func52, Tryz.ntmps52
          go_wp2_with fail
          obtain ⟨W2, hW2⟩ : ∃ W2, (w.alloc (.cells #[.int .i64 0, .int .i64 0, .string ⟨#[]⟩, .slice none 0 0] 27)) = W2 := ⟨_, rfl⟩
          have hz0 : Zx w.heap.size W2 := by rw [← hW2]; exact Zx.new w
          have hb2 : Below w.heap.size w W2 := by rw [← hW2]; exact bal (bref _) _
          have hsz : W2.heap.size = w.heap.size + 1 := by rw [← hW2]; simp
          rw [hW2]
          have Z0 := Lib.hid hz0
          have HB2 := Lib.hid hb2
          have HSZ := Lib.hid hsz
          have HWB := Lib.hid (HW.out.trans (hb2.mono HW.out.size))
          clear hW2 hz0 hb2 hsz
          obtain ⟨b, off, rfl, hb, c0, c1, c2⟩ := (HD.out.lie.keep HWB.out) k (by have := HN.out; omega)
          rw [hu] at c0 c1 c2
          have I10 := IS.out 4 [36] W2 HWB.out
          rw [h36] at I10
          have I1 := Lib.hid I10
          clear I10
          have I20 := IS.out 5 wMin W2 HWB.out
          rw [hmn] at I20
          have I2 := Lib.hid I20
          clear I20
          have I30 := IS.out 5 wMax W2 HWB.out
          rw [hmx] at I30
          have I3 := Lib.hid I30
          clear I30
          have I40 := IS.out 4 [40] W2 HWB.out
          rw [h40] at I40
          have I4 := Lib.hid I40
          clear I40
          refine (NU1.out W2 HWB.out).mono ?_
          rintro q w1 ⟨v0, rfl, _, hw1⟩
          subst hw1
          obtain ⟨y0, y1, y2, y3, fz⟩ := Z0.out
          have lt0 := Zx.lt Z0.out
          have lt1 : w.heap.size < W2.heap.size + 1 := by omega
          have lt2 : w.heap.size < W2.heap.size + 1 + 1 := by omega
          go_wp2_with fail
          refine I1.out.mono ?_
          rintro q w1 ⟨rfl, hw1⟩
          subst hw1
          go_wp2_with fail
          refine I2.out.mono ?_
          rintro q w1 ⟨rfl, hw1⟩
          subst hw1
          go_wp2_with fail
          refine I3.out.mono ?_
          rintro q w1 ⟨rfl, hw1⟩
          subst hw1
          go_wp2_with fail
          refine I4.out.mono ?_
          rintro q w1 ⟨rfl, hw1⟩
          subst hw1
          go_wp2_with fail
          refine (RT.out W2).mono ?_
          rintro q w1 ⟨rfl, hw1⟩
          subst hw1
          go_wp2_with fail
          refine bodyPost_ret (res_ex3 rfl _ _ _ rfl _ _ _ _ (st4_0 Z0.out _ _ _ _) (st4_1 Z0.out _ _ _ _) (st4_2 Z0.out _ _ _ _) (st4_3 Z0.out _ _ _ _) _ _ rfl rfl) rfl ?_
          refine ⟨_, HP.out, ?_⟩
          exact RD.bad (W := W2) HK.out (by repeat (first | exact Ag.refl _ _ | refine Ag.set ?_ _ _ | refine Ag.alloc ?_ _)) HB2.out
        ·have g3 : (uk == 3) = false := by rw [beq_eq_false_iff_ne]; exact k3
         have HP := Lib.hid (HNN.out (by rw [hu]; exact k1) (by rw [hu]; exact k3))
         clear hnb HNN hmem k1 k3
         go_enter Tryz.func52, Tryz.ntmps52
         go_wp2_with fail
         obtain ⟨W2, hW2⟩ : ∃ W2, (w.alloc (.cells #[.int .i64 0, .int .i64 0, .string ⟨#[]⟩, .slice none 0 0] 27)) = W2 := ⟨_, rfl⟩
         have hz0 : Zx w.heap.size W2 := by rw [← hW2]; exact Zx.new w
         have hb2 : Below w.heap.size w W2 := by rw [← hW2]; exact bal (bref _) _
         have hsz : W2.heap.size = w.heap.size + 1 := by rw [← hW2]; simp
         rw [hW2]
         have Z0 := Lib.hid hz0
         have HB2 := Lib.hid hb2
         have HSZ := Lib.hid hsz
         have HWB := Lib.hid (HW.out.trans (hb2.mono HW.out.size))
         clear hW2 hz0 hb2 hsz
         obtain ⟨b, off, rfl, hb, c0, c1, c2⟩ := (HD.out.lie.keep HWB.out) k (by have := HN.out; omega)
         rw [hu] at c0 c1 c2
         have I10 := IS.out 4 [36] W2 HWB.out
         rw [h36] at I10
         have I1 := Lib.hid I10
         clear I10
         have I20 := IS.out 5 wMin W2 HWB.out
         rw [hmn] at I20
         have I2 := Lib.hid I20
         clear I20
         have I30 := IS.out 5 wMax W2 HWB.out
         rw [hmx] at I30
         have I3 := Lib.hid I30
         clear I30
         have I40 := IS.out 4 [40] W2 HWB.out
         rw [h40] at I40
         have I4 := Lib.hid I40
         clear I40
         refine (NU1.out W2 HWB.out).mono ?_
         rintro q w1 ⟨v0, rfl, _, hw1⟩
         subst hw1
         obtain ⟨y0, y1, y2, y3, fz⟩ := Z0.out
         have lt0 := Zx.lt Z0.out
         have lt1 : w.heap.size < W2.heap.size + 1 := by omega
         have lt2 : w.heap.size < W2.heap.size + 1 + 1 := by omega
         go_wp2_with fail
         refine I1.out.mono ?_
         rintro q w1 ⟨rfl, hw1⟩
         subst hw1
         go_wp2_with fail
         refine I2.out.mono ?_
         rintro q w1 ⟨rfl, hw1⟩
         subst hw1
         go_wp2_with fail
         refine I3.out.mono ?_
         rintro q w1 ⟨rfl, hw1⟩
         subst hw1
         go_wp2_with fail
         refine I4.out.mono ?_
         rintro q w1 ⟨rfl, hw1⟩
         subst hw1
         go_wp2_with fail
         refine bodyPost_ret (res_ex3 rfl _ _ _ rfl _ _ _ _ (st4_0 Z0.out _ _ _ _) (st4_1 Z0.out _ _ _ _) (st4_2 Z0.out _ _ _ _) (st4_3 Z0.out _ _ _ _) _ _ rfl rfl) rfl ?_
         refine ⟨_, HP.out, ?_⟩
         exact RD.bad (W := W2) HK.out (by repeat (first | exact Ag.refl _ _ | refine Ag.set ?_ _ _ | refine Ag.alloc ?_ _)) HB2.out
end Go.Proofs.YtplkphihmfhciaaGreatDoor
