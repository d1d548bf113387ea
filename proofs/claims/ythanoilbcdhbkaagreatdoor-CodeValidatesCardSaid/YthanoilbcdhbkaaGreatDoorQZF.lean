/-
  The type of an expression: evaluated, Of, Check.
-/
import Derived.Test.YthanoilbcdhbkaaGreatDoorQZD
import Derived.Test.YthanoilbcdhbkaaGreatDoorQZE
import Derived.Test.YthanoilbcdhbkaaGreatDoorQEV
namespace Go.Proofs.YthanoilbcdhbkaaGreatDoor
open Go Go.RowKit Go.Lib Go.Shelf WM TM EM YM

theorem opT_none {o : Int} {l : List Int} (h : resO o l = none) : opT o l = (0, 3) := by unfold opT; rw [h]
theorem opT_some {o : Int} {l : List Int} {t : Int} (h : resO o l = some t) : opT o l = (t, 0) := by unfold opT; rw [h]
set_option maxRecDepth 100000 in
set_option maxHeartbeats 4000000 in
theorem meval (vs : List Vr) (vo : Option Addr) (vc : Nat) (hvl : vs.length ≤ 100000) : ∀ (e : Ex) (so : Option Addr) (cap : Nat) (w : World), siz e ≤ 100000 → VarsAt vo vs w → ExprsAt so e.args w →
  Calls Tryz.prog 50 #[.agg #[.int .i64 e.op, .int .i64 e.n, .string (str e.s), .slice so e.args.length cap], .slice vo vs.length vc] w
   fun r w' => r = .returned (.tuple #[.int .i64 (ty vs e).1, .int .i64 (ty vs e).2]) ∧ Below w.heap.size w w' := by
 refine ex_ind _ fun e ih so cap w hm hv h => ?_
 obtain ⟨i0, hi, hz0, hz1, hz2⟩ := info_parts info3
 have HV := Lib.hid hv
 have HT := Lib.hid h
 have HM := Lib.hid hm
 have HTy := Lib.hid (ty_mk vs e)
 have DV := Lib.hid (fun W (hW : Below w.heap.size w W) => mdeclared vs (str e.s) vo vc W hvl (hv.keep hW))
 rw [byt_str] at DV
 obtain ⟨o, ho⟩ : ∃ o, e.op = o := ⟨_, rfl⟩
 obtain ⟨X, hX⟩ : ∃ X, str e.s = X := ⟨_, rfl⟩
 obtain ⟨q, hq⟩ : ∃ q, YM.look vs e.s = q := ⟨_, rfl⟩
 obtain ⟨l, hl⟩ : ∃ l, e.args = l := ⟨_, rfl⟩
 obtain ⟨n, hn⟩ : ∃ n, l.length = n := ⟨_, rfl⟩
 obtain ⟨vn, hvn⟩ : ∃ n, vs.length = n := ⟨_, rfl⟩
 obtain ⟨R, hR⟩ : ∃ R, ty vs e = R := ⟨_, rfl⟩
 have HSZ : Hid (∀ x ∈ l, siz x ≤ 100000) := Lib.hid (fun x hx => by have := siz_args (e := e) (x := x) (by rw [hl]; exact hx); have := HM.out; omega)
 have hn5 : n ≤ 100000 := by have h1 := siz_eq e; have h2 := sizs_len e.args; rw [hl] at h1 h2; rw [hn] at h2; have := HM.out; omega
 rw [hl] at ih
 have IH := Lib.hid (fun x (hx : x ∈ l) so cap W (hW : VarsAt vo vs W) (hE : ExprsAt so x.args W) => ih x hx so cap W (HSZ.out x hx) hW hE)
 rw [hl] at HT
 rw [ho, hq, hl, hR] at HTy
 rw [hX, hq, hvn] at DV
 rw [hvn] at IH
 rw [ho, hX, hl, hn, hvn, hR]
 have HN := Lib.hid hn
 clear ih h hv hm hX hq hl hn hR HM HSZ ho
 by_cases h1 : o = 1
 ·subst h1
  have hr : R = (1, 0) := by rw [HTy.out]; rfl
  subst hr
  go_enter Tryz.func50, Tryz.ntmps50
  go_wp2_with fail
  go_ret2
  exact ⟨rfl, by repeat (first | exact bref _ | refine bdr ?_ | refine bal ?_ _)⟩
 have e1 : (o == 1) = false := by rw [beq_eq_false_iff_ne]; exact h1
 by_cases h2 : o = 2
 ·subst h2
  have hr : R = (2, 0) := by rw [HTy.out]; rfl
  subst hr
  go_enter Tryz.func50, Tryz.ntmps50
  go_wp2_with fail
  go_ret2
  exact ⟨rfl, by repeat (first | exact bref _ | refine bdr ?_ | refine bal ?_ _)⟩
 have e2 : (o == 2) = false := by rw [beq_eq_false_iff_ne]; exact h2
 by_cases h3 : o = 3
 ·subst h3
  have hr : R = (3, 0) := by rw [HTy.out]; rfl
  subst hr
  go_enter Tryz.func50, Tryz.ntmps50
  go_wp2_with fail
  go_ret2
  exact ⟨rfl, by repeat (first | exact bref _ | refine bdr ?_ | refine bal ?_ _)⟩
 have e3 : (o == 3) = false := by rw [beq_eq_false_iff_ne]; exact h3
 by_cases h4 : o = 4
 ·subst h4
  have hr : R = q := by rw [HTy.out]; rfl
  subst hr
  obtain ⟨q1, q2⟩ := R
  go_enter Tryz.func50, Tryz.ntmps50
  go_wp2_with (go_at_call 80; refine (DV.out _ (by repeat (first | exact bref _ | refine bdr ?_ | refine bal ?_ _))).mono ?_; rintro r w1 ⟨rfl, hb1⟩)
  go_ret2
  exact ⟨rfl, btr (by repeat (first | exact bref _ | refine bdr ?_ | refine bal ?_ _)) hb1⟩
 have e4 : (o == 4) = false := by rw [beq_eq_false_iff_ne]; exact h4
 have HR : Hid (R = if (tys vs l).2 = 0 then opT o (tys vs l).1 else (0, (tys vs l).2)) := Lib.hid (by rw [HTy.out, if_neg h1, if_neg h2, if_neg h3, if_neg h4])
 clear h1 h2 h3 h4 HTy DV
 have HBX := Lib.hid (show Below w.heap.size w (w.alloc (.cells #[.int .i64 o, .int .i64 e.n, .string X, .slice so n cap] 24)) from bal (bref w) _)
 go_enter Tryz.func50, Tryz.ntmps50
 go_wp2_with (at_make; refine wpList_make_own _ rfl _ _ _ rfl (w.heap.size + 1) 3 i0 (.int .i64 0) 1 Tryz.underlying85 hi hz0 hz1 .i64 .i64 _ n rfl rfl rfl (by rw [hz2]; omega) (by unfold maxLen; omega) (by simp) ?_; intro w1 hown1 hgrow1; have hb1 : Below (w.heap.size + 1) (w.alloc (.cells #[.int .i64 o, .int .i64 e.n, .string X, .slice so n cap] 24)) w1 := (Below.refl _ _).grown hgrow1 (by simp) (fun k h => by cases h); have hs1 : w.heap.size + 1 ≤ w1.heap.size := (by have := hb1.size; simpa using this); have cx0 : w1.cell? ⟨w.heap.size, 0, none⟩ = some (.int .i64 o) := (hb1.cell (p := ⟨w.heap.size, 0, none⟩) (Nat.lt_succ_self _)).trans (by simp [go_sem]); have cx3 : w1.cell? ⟨w.heap.size, 3, none⟩ = some (.slice so n cap) := (hb1.cell (p := ⟨w.heap.size, 3, none⟩) (Nat.lt_succ_self _)).trans (by simp [go_sem]))
 have HB1 := Lib.hid (show Below w.heap.size w w1 from HBX.out.trans (hb1.mono (Nat.le_succ _)))
 have HO1 : Hid (w1.ownsRow (w.heap.size + 1) 3 1 (.slice (some ⟨w.heap.size + 1, 0, none⟩) 0 n) 0 []) := Lib.hid (by simpa using hown1)
 clear hown1 hgrow1 hb1
 go_loopw [6, 36] (fun x i wr => ∃ (k : Nat), k ≤ n ∧ i = .int .i64 k ∧ (tys vs (l.take k)).2 = 0 ∧ wr.ownsRow (w.heap.size + 1) 3 1 x k (vals (tys vs (l.take k)).1) ∧ wr.cell? ⟨w.heap.size, 0, none⟩ = some (.int .i64 o) ∧ w.heap.size + 1 ≤ wr.heap.size ∧ Below w.heap.size w wr) (fun _ i _ => n - (RowKit.intOf i).toNat)
 case atStart => exact ⟨0, by omega, rfl, rfl, HO1.out, cx0, hs1, HB1.out⟩
 case round =>
  obtain ⟨k, hk, rfl, hz, hO, hc0, hsr, hB⟩ := hrel
  have HZ := Lib.hid hz
  have HO := Lib.hid hO
  have HB := Lib.hid hB
  clear hz hO hB cx0 cx3
  by_cases hlt : k < n
  ·have hkz : (k : Int) < (n : Int) := by omega
   have g1 : k < l.length := by rw [HN.out]; exact hlt
   obtain ⟨b, off, so2, cap2, rfl, hb, c0, c1, c2, c3, hs, _⟩ := (HT.out.keep HB.out).at k g1
   have ht := tys_take vs l k g1 HZ.out
   have C0 := Lib.hid (fun W (hW : Below wr.heap.size wr W) => IH.out (l.getD k E0) (getD_mem'' _ _ _ g1) so2 cap2 W (HV.out.keep (btr HB.out hW)) (hs.keep hW))
   have hbad := tys_bad vs l (k + 1)
   obtain ⟨x, hx⟩ : ∃ x, l.getD k E0 = x := ⟨_, rfl⟩
   rw [hx] at c0 c1 c2 c3 ht C0
   obtain ⟨q1, hq1⟩ : ∃ q1, (ty vs x).1 = q1 := ⟨_, rfl⟩
   obtain ⟨q2, hq2⟩ : ∃ q2, (ty vs x).2 = q2 := ⟨_, rfl⟩
   rw [hq1, hq2] at ht C0
   clear hs hx hq1 hq2 g1
   by_cases hq : q2 = 0
   ·subst hq
    rw [if_pos rfl] at ht
    have HTK := Lib.hid ht
    clear ht hbad
    go_wp2_with fail
    refine (C0.out _ (by repeat (first | exact bref _ | refine bdr ?_ | refine bal ?_ _))).mono ?_
    rintro r w2 ⟨rfl, hb2⟩
    have hbw2 := btr (show Below wr.heap.size wr _ from by repeat (first | exact bref _ | refine bdr ?_ | refine bal ?_ _)) hb2
    have HO2 := Lib.hid (own_below HO.out hbw2)
    have d0 := keepc hbw2 hc0
    have hs2 : w.heap.size + 1 ≤ w2.heap.size := by have := hbw2.size; omega
    have HB2 := Lib.hid (btr HB.out hbw2)
    clear hb2 hbw2 hc0 c0 c1 c2 c3 hb
    go_wp2_with (at_builtin; refine wpList_append_one (.int .i64 q1) rfl rfl (.tmp 49) (.tmp 51) 85 rfl (w.heap.size + 1) i0 (.int .i64 0) 8 Tryz.underlying85 hi hz0 hz1 hz2 rfl _ _ _ rfl HO2.out rfl rfl (by unfold maxLen; omega) (by omega) hs2 ?_; intro v5 w5 ox gx)
    have HO5 : Hid (w5.ownsRow (w.heap.size + 1) 3 1 v5 (k + 1) (vals (tys vs (l.take (k + 1))).1)) := Lib.hid (by rw [HTK.out]; simpa [vals] using ox)
    have d5 : w5.cell? ⟨w.heap.size, 0, none⟩ = some (.int .i64 o) := (gx.cell (p := ⟨w.heap.size, 0, none⟩) (Nat.lt_succ_self _)).trans d0
    have hs5 : w.heap.size + 1 ≤ w5.heap.size := by have := gx.size; omega
    have HB5 := Lib.hid (HB2.out.trans (gx.mono (Nat.le_succ _)))
    clear ox gx
    go_wp2_with fail
    go_roundw
    case rel => exact ⟨k + 1, by omega, by go_num, by rw [HTK.out], HO5.out, d5, hs5, HB5.out⟩
    case measure => simp [RowKit.intOf]; omega
   ·have hqb : (q2 != 0) = true := by rw [bne_iff_ne]; exact hq
    have hr : Hid (R = (0, q2)) := Lib.hid (by
     have h2 : (tys vs (l.take (k + 1))).2 = q2 := by rw [ht, if_neg hq]
     rw [HR.out, hbad (by rw [h2]; exact hq), h2, if_neg hq])
    clear ht hbad
    go_wp2_with (go_at_call 50; refine (C0.out _ (by repeat (first | exact bref _ | refine bdr ?_ | refine bal ?_ _))).mono ?_; rintro r w2 ⟨rfl, hb2⟩)
    go_ret2
    exact ⟨by rw [hr.out]; rfl, btr HB.out (btr (by repeat (first | exact bref _ | refine bdr ?_ | refine bal ?_ _)) hb2)⟩
  ·have he : k = n := by omega
   subst he
   have hll : l.take k = l := by rw [← HN.out, List.take_length]
   obtain ⟨hl1, ao, cp, hx, hI⟩ := own_ints HO.out
   subst hx
   rw [hll] at hl1
   have HI := Lib.hid (show IntsAt ao (tys vs l).1 wr from by rw [← hll]; exact hI)
   have hr : Hid (R = opT o (tys vs l).1) := Lib.hid (by rw [HR.out, if_pos (by rw [← hll]; exact HZ.out)])
   have C0 := Lib.hid (fun W (hW : Below wr.heap.size wr W) => mResult o (tys vs l).1 ao cp W (HI.out.keep hW))
   rw [hl1] at C0
   have hno := opT_none (o := o) (l := (tys vs l).1)
   have hso := fun t => opT_some (o := o) (l := (tys vs l).1) (t := t)
   obtain ⟨Q, hQ⟩ : ∃ Q, resO o (tys vs l).1 = Q := ⟨_, rfl⟩
   rw [hQ] at C0 hno
   have hso2 : ∀ t, Q = some t → opT o (tys vs l).1 = (t, 0) := fun t ht => hso t (hQ.trans ht)
   clear hso hQ hI hll hl1
   cases Q with
   | none =>
    have hr2 : Hid (R = (0, 3)) := Lib.hid (by rw [hr.out]; exact hno rfl)
    clear hno hso2
    go_wp2_with (go_at_call 81; refine (C0.out _ (by repeat (first | exact bref _ | refine bdr ?_ | refine bal ?_ _))).mono ?_; rintro r w2 ⟨rfl, hb2⟩)
    go_ret2
    exact ⟨by rw [hr2.out]; rfl, btr HB.out hb2⟩
   | some t =>
    have hr2 : Hid (R = (t, 0)) := Lib.hid (by rw [hr.out]; exact hso2 t rfl)
    clear hno hso2
    go_wp2_with (go_at_call 81; refine (C0.out _ (by repeat (first | exact bref _ | refine bdr ?_ | refine bal ?_ _))).mono ?_; rintro r w2 ⟨rfl, hb2⟩)
    go_ret2
    exact ⟨by rw [hr2.out]; rfl, btr HB.out hb2⟩
set_option maxRecDepth 100000 in
set_option maxHeartbeats 4000000 in
theorem mOf (vs : List Vr) (vo : Option Addr) (vc : Nat) (hvl : vs.length ≤ 100000) (e : Ex) (so : Option Addr) (cap : Nat) (w : World) (hm : siz e ≤ 100000) (hG : Ge w) (hv : VarsAt vo vs w) (hL : Lies (e, so, cap) w) :
  Calls Tryz.prog 30 #[.agg #[.int .i64 e.op, .int .i64 e.n, .string (str e.s), .slice so e.args.length cap], .slice vo vs.length vc] w
   fun r w' => r = .returned (.tuple #[.int .i64 (ofT e vs).1, .int .i64 (ofT e vs).2]) ∧ Below w.heap.size w w' := by
 have CV := Lib.hid (fun W (hW : Below w.heap.size w W) => mvalidate e so cap W (hG.keep hW) (hL.keep hW))
 have CE := Lib.hid (fun W (hW : Below w.heap.size w W) => meval vs vo vc hvl e so cap W hm (hv.keep hW) (hL.1.keep hW))
 have HO : Hid (ofT e vs = if vE e = 0 then ty vs e else (0, vE e)) := Lib.hid rfl
 obtain ⟨X, hX⟩ : ∃ X, str e.s = X := ⟨_, rfl⟩
 obtain ⟨q, hq⟩ : ∃ q, ty vs e = q := ⟨_, rfl⟩
 obtain ⟨q1, q2⟩ := q
 obtain ⟨v, hvv⟩ : ∃ v, vE e = v := ⟨_, rfl⟩
 obtain ⟨R, hR⟩ : ∃ R, ofT e vs = R := ⟨_, rfl⟩
 rw [hX, hvv] at CV
 rw [hX, hq] at CE
 rw [hq, hvv, hR] at HO
 rw [hX, hR]
 obtain ⟨o, ho⟩ : ∃ o, e.op = o := ⟨_, rfl⟩
 obtain ⟨en, hen⟩ : ∃ o, e.n = o := ⟨_, rfl⟩
 obtain ⟨n, hn⟩ : ∃ o, e.args.length = o := ⟨_, rfl⟩
 obtain ⟨vn, hvn⟩ : ∃ o, vs.length = o := ⟨_, rfl⟩
 rw [ho, hen, hn] at CV CE
 rw [hvn] at CE
 rw [ho, hen, hn, hvn]
 simp only at CE
 clear hX hq hvv hR hv hL hG hm ho hen hn
 by_cases hz : v = 0
 ·subst hz
  have hr : R = (q1, q2) := by rw [HO.out, if_pos rfl]
  subst hr
  go_enter Tryz.func30, Tryz.ntmps30
  go_wp2_with fail
  refine (CV.out _ (by repeat (first | exact bref _ | refine bdr ?_ | refine bal ?_ _))).mono ?_
  rintro r w1 ⟨rfl, hb1⟩
  have hbw := btr (show Below w.heap.size w _ from by repeat (first | exact bref _ | refine bdr ?_ | refine bal ?_ _)) hb1
  have hbx : Below (w.heap.size + 1) (w.alloc (.cells #[.int .i64 o, .int .i64 en, .string X, .slice so n cap] 24)) w1 := by have := hb1; simpa using this
  have x0 : w1.cell? ⟨w.heap.size, 0, none⟩ = some (.int .i64 o) := (hbx.cell (p := ⟨w.heap.size, 0, none⟩) (Nat.lt_succ_self _)).trans (by simp [go_sem])
  have x1 : w1.cell? ⟨w.heap.size, 1, none⟩ = some (.int .i64 en) := (hbx.cell (p := ⟨w.heap.size, 1, none⟩) (Nat.lt_succ_self _)).trans (by simp [go_sem])
  have x2 : w1.cell? ⟨w.heap.size, 2, none⟩ = some (.string X) := (hbx.cell (p := ⟨w.heap.size, 2, none⟩) (Nat.lt_succ_self _)).trans (by simp [go_sem])
  have x3 : w1.cell? ⟨w.heap.size, 3, none⟩ = some (.slice so n cap) := (hbx.cell (p := ⟨w.heap.size, 3, none⟩) (Nat.lt_succ_self _)).trans (by simp [go_sem])
  have HBW := Lib.hid hbw
  clear hb1 hbx hbw
  go_wp2_with fail
  refine (CE.out _ HBW.out).mono ?_
  rintro r w2 ⟨rfl, hb2⟩
  go_wp2_with fail
  go_ret2
  exact ⟨rfl, btr HBW.out hb2⟩
 ·have hzb : (v != 0) = true := by rw [bne_iff_ne]; exact hz
  have hr : R = (0, v) := by rw [HO.out, if_neg hz]
  subst hr
  go_enter Tryz.func30, Tryz.ntmps30
  go_wp2_with fail
  refine (CV.out _ (by repeat (first | exact bref _ | refine bdr ?_ | refine bal ?_ _))).mono ?_
  rintro r w1 ⟨rfl, hb1⟩
  have HBW := Lib.hid (btr (show Below w.heap.size w _ from by repeat (first | exact bref _ | refine bdr ?_ | refine bal ?_ _)) hb1)
  clear hb1
  go_wp2_with fail
  go_ret2
  exact ⟨rfl, HBW.out⟩
end Go.Proofs.YthanoilbcdhbkaaGreatDoor
