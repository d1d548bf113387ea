/-
  The walk of TypingParts.
-/
import Derived.Test.YtcnnkobiijhegaaGreatDoorZI
import Derived.Test.YtcnnkobiijhegaaGreatDoorZJ
namespace Go.Proofs.YtcnnkobiijhegaaGreatDoor
open Go Go.RowKit Go.Lib Go.Shelf WM TM EM YM

set_option maxRecDepth 100000 in
set_option maxHeartbeats 8000000 in
theorem typingParts (e : Ex) (so : Option Addr) (cap : Nat) (vs : List Vr) (vo : Option Addr) (vc : Nat) (w : World) (hG : Ge w) (hL : Lies (e, so, cap) w) (hv : VarsAt vo vs w) :
    Calls Tryz.prog 4 #[.agg #[.int .i64 e.op, .int .i64 e.n, .string (str e.s), .slice so e.args.length cap], .slice vo vs.length vc] w fun r w' => r = .returned (.bool true) ∧ Below w.heap.size w w' := by
  have HL := Lib.hid hL
  have HV := Lib.hid hv
  have HG := Lib.hid hG
  have CG := Lib.hid (fun W (hW : Below w.heap.size w W) => rgreat e 200 so cap W (by decide) (hL.1.keep hW))
  have CS := Lib.hid (fun W (hW : Below w.heap.size w W) => lshort vs vo vc W (hv.keep hW))
  have CL := Lib.hid (fun W (hW : Below w.heap.size w W) => mlive W (hG.keep hW))
  have BX := Lib.hid (Bx.new w (e, so, cap) 24)
  have HB0 := Lib.hid (show Below w.heap.size w (w.alloc (.cells #[.int .i64 e.op, .int .i64 e.n, .string (str e.s), .slice so e.args.length cap] 24)) from bal (bref w) _)
  have HGR : Hid (grtB e 200 = false → siz e ≤ 200) := Lib.hid (fun h => by unfold grtB at h; have := of_decide_eq_false h; omega)
  have HSH := Lib.hid (short_len (l := vs))
  have HAL : Hid (siz e ≤ 200 → e.args.length ≤ 200) := Lib.hid (fun h => by have h1 := siz_eq e; have h2 := sizs_len e.args; omega)
  cases hgr : grtB e 200 with
  | true =>
    rw [hgr] at CG
    clear hgr hL hv hG HL HV HGR HSH CS
    go_enter Tryz.func4, Tryz.ntmps4
    go_wp2_with fail
    refine (CG.out _ HB0.out).mono ?_
    rintro r w1 ⟨rfl, hb1⟩
    have HB1 := Lib.hid (btr HB0.out hb1)
    clear hb1
    go_wp2_with fail
    refine (CL.out _ HB1.out).mono ?_
    rintro r w2 ⟨rfl, hb2⟩
    go_wp2_with fail
    go_ret
    exact ⟨rfl, btr HB1.out hb2⟩
  | false =>
  rw [hgr] at CG
  have hm := HGR.out hgr
  clear hgr HGR
  cases hsh : shortB vs with
  | false =>
    rw [hsh] at CS
    obtain ⟨vn, hvn⟩ : ∃ n, vs.length = n := ⟨_, rfl⟩
    rw [hvn] at CS ⊢
    clear hsh hL hv hG HL HV HSH hm hvn
    go_enter Tryz.func4, Tryz.ntmps4
    go_wp2_with fail
    refine (CG.out _ HB0.out).mono ?_
    rintro r w1 ⟨rfl, hb1⟩
    have HB1 := Lib.hid (btr HB0.out hb1)
    clear hb1
    go_wp2_with fail
    refine (CS.out _ HB1.out).mono ?_
    rintro r w2 ⟨rfl, hb2⟩
    have HB2 := Lib.hid (btr HB1.out hb2)
    clear hb2
    go_wp2_with fail
    refine (CL.out _ HB2.out).mono ?_
    rintro r w3 ⟨rfl, hb3⟩
    go_wp2_with fail
    go_ret
    exact ⟨rfl, btr HB2.out hb3⟩
  | true =>
  rw [hsh] at CS
  have hvl : vs.length ≤ 100000 := by have := HSH.out hsh; omega
  clear hsh HSH
  have BX0 := Lib.hid BX.out
  have CV := Lib.hid (fun W (hW : Below w.heap.size w W) => rvalidate e so cap W (by omega) (hL.1.keep hW))
  have C1 := Lib.hid (fun W (hW : Below w.heap.size w W) => mOf vs vo vc hvl e so cap W (by omega) (hG.keep hW) (hv.keep hW) (hL.keep hW))
  have CA := Lib.hid (fun x (hx : x ∈ e.args) so2 cap2 W (hW : Below w.heap.size w W) (hE : Lies (x, so2, cap2) W) => mOf vs vo vc hvl x so2 cap2 W (by have := siz_args (e := e) (x := x) hx; omega) (hG.keep hW) (hv.keep hW) hE)
  have HAV := Lib.hid (fun (h : vE e = 0) x (hx : x ∈ e.args) => (ofT_ok vs (vE_arg h hx)))
  have HTY := Lib.hid (fun (h : vE e = 0) => ofT_ok vs h)
  have HOP := Lib.hid (fun (h : ¬ (1 ≤ e.op ∧ e.op ≤ 4)) => ty_opr vs h)
  have han := HAL.out hm
  obtain ⟨o, ho⟩ : ∃ o, e.op = o := ⟨_, rfl⟩
  obtain ⟨en, hen⟩ : ∃ o, e.n = o := ⟨_, rfl⟩
  obtain ⟨X, hX⟩ : ∃ X, str e.s = X := ⟨_, rfl⟩
  obtain ⟨al, hal⟩ : ∃ o, e.args.length = o := ⟨_, rfl⟩
  obtain ⟨vn, hvn⟩ : ∃ n, vs.length = n := ⟨_, rfl⟩
  obtain ⟨l, hl⟩ : ∃ l, e.args = l := ⟨_, rfl⟩
  obtain ⟨q, hq⟩ : ∃ q, ofT e vs = q := ⟨_, rfl⟩
  obtain ⟨V, hV⟩ : ∃ q, vE e = q := ⟨_, rfl⟩
  have HLL := Lib.hid (show ExprsAt so l w from by rw [← hl]; exact hL.1)
  have HLN : Hid (l.length = al) := Lib.hid (by rw [← hl]; exact hal)
  rw [hV] at HAV HTY CV
  rw [hq] at HTY C1
  rw [ho, hen, hX, hal] at CG CV
  rw [hvn] at CS
  rw [ho, hen, hX, hal, hvn] at C1
  rw [hvn] at CA
  rw [hl] at CA HAV HOP
  rw [ho] at HOP
  rw [hal] at han
  rw [ho, hen, hX, hal] at HB0
  rw [ho, hen, hX, hal, hvn]
  simp only [ho, hen, hX, hal] at BX0
  clear hL hv hG HL HG HV hV hq BX hm hvl HAL
  by_cases hv0 : V = 0
  rotate_left
  · have hvb : (V != 0) = true := by rw [bne_iff_ne]; exact hv0
    clear HAV HTY HOP C1 CA
    go_enter Tryz.func4, Tryz.ntmps4
    go_wp2_with fail
    refine (CG.out _ HB0.out).mono ?_
    rintro r w1 ⟨rfl, hb⟩
    have HB1 := Lib.hid (btr HB0.out hb)
    have BX1 := Lib.hid (BX0.out.keep hb)
    clear hb
    obtain ⟨l0, x0, x1, x2, x3⟩ := BX1.out
    simp only [ho, hen, hX, hal] at x0 x1 x2 x3
    go_wp2_with fail
    refine (CS.out _ HB1.out).mono ?_
    rintro r w2 ⟨rfl, hb⟩
    have HB2 := Lib.hid (btr HB1.out hb)
    have BX2 := Lib.hid (BX1.out.keep hb)
    clear hb
    clear l0 x0 x1 x2 x3
    obtain ⟨l0, x0, x1, x2, x3⟩ := BX2.out
    simp only [ho, hen, hX, hal] at x0 x1 x2 x3
    go_wp2_with fail
    refine (CV.out _ HB2.out).mono ?_
    rintro r w3 ⟨rfl, hb⟩
    have HB3 := Lib.hid (btr HB2.out hb)
    have BX3 := Lib.hid (BX2.out.keep hb)
    clear hb
    clear l0 x0 x1 x2 x3
    obtain ⟨l0, x0, x1, x2, x3⟩ := BX3.out
    simp only [ho, hen, hX, hal] at x0 x1 x2 x3
    clear l0 x0 x1 x2 x3
    go_wp2_with fail
    refine (CL.out _ HB3.out).mono ?_
    rintro r w9 ⟨rfl, hb9⟩
    go_wp2_with fail
    go_ret
    exact ⟨rfl, btr HB3.out hb9⟩
  subst hv0
  by_cases ho5 : o < 5
  · clear HAV HTY HOP C1 CA
    go_enter Tryz.func4, Tryz.ntmps4
    go_wp2_with fail
    refine (CG.out _ HB0.out).mono ?_
    rintro r w1 ⟨rfl, hb⟩
    have HB1 := Lib.hid (btr HB0.out hb)
    have BX1 := Lib.hid (BX0.out.keep hb)
    clear hb
    obtain ⟨l0, x0, x1, x2, x3⟩ := BX1.out
    simp only [ho, hen, hX, hal] at x0 x1 x2 x3
    go_wp2_with fail
    refine (CS.out _ HB1.out).mono ?_
    rintro r w2 ⟨rfl, hb⟩
    have HB2 := Lib.hid (btr HB1.out hb)
    have BX2 := Lib.hid (BX1.out.keep hb)
    clear hb
    clear l0 x0 x1 x2 x3
    obtain ⟨l0, x0, x1, x2, x3⟩ := BX2.out
    simp only [ho, hen, hX, hal] at x0 x1 x2 x3
    go_wp2_with fail
    refine (CV.out _ HB2.out).mono ?_
    rintro r w3 ⟨rfl, hb⟩
    have HB3 := Lib.hid (btr HB2.out hb)
    have BX3 := Lib.hid (BX2.out.keep hb)
    clear hb
    clear l0 x0 x1 x2 x3
    obtain ⟨l0, x0, x1, x2, x3⟩ := BX3.out
    simp only [ho, hen, hX, hal] at x0 x1 x2 x3
    go_wp2_with fail
    refine (CL.out _ HB3.out).mono ?_
    rintro r w9 ⟨rfl, hb9⟩
    go_wp2_with fail
    go_ret
    exact ⟨rfl, btr HB3.out hb9⟩
  have HTE := Lib.hid (HTY.out rfl)
  have HO2 := Lib.hid (HOP.out (by omega))
  have HRR : Hid (q = if (tys vs l).2 = 0 then opT o (tys vs l).1 else (0, (tys vs l).2)) := Lib.hid (by rw [HTE.out]; exact HO2.out)
  clear HTY HTE HO2 HOP
  obtain ⟨i0, hi, hz0, hz1, hz2⟩ := info_parts info3
  go_enter Tryz.func4, Tryz.ntmps4
  go_wp2_with fail
  refine (CG.out _ HB0.out).mono ?_
  rintro r w1 ⟨rfl, hb⟩
  have HB1 := Lib.hid (btr HB0.out hb)
  have BX1 := Lib.hid (BX0.out.keep hb)
  clear hb
  obtain ⟨l0, x0, x1, x2, x3⟩ := BX1.out
  simp only [ho, hen, hX, hal] at x0 x1 x2 x3
  go_wp2_with fail
  refine (CS.out _ HB1.out).mono ?_
  rintro r w2 ⟨rfl, hb⟩
  have HB2 := Lib.hid (btr HB1.out hb)
  have BX2 := Lib.hid (BX1.out.keep hb)
  clear hb
  clear l0 x0 x1 x2 x3
  obtain ⟨l0, x0, x1, x2, x3⟩ := BX2.out
  simp only [ho, hen, hX, hal] at x0 x1 x2 x3
  go_wp2_with fail
  refine (CV.out _ HB2.out).mono ?_
  rintro r w3 ⟨rfl, hb⟩
  have HB3 := Lib.hid (btr HB2.out hb)
  have BX3 := Lib.hid (BX2.out.keep hb)
  clear hb
  clear l0 x0 x1 x2 x3
  obtain ⟨l0, x0, x1, x2, x3⟩ := BX3.out
  simp only [ho, hen, hX, hal] at x0 x1 x2 x3
  have HO3 : Hid ((w3.alloc (.cells #[] 3)).ownsRow w3.heap.size 3 1 (.slice (some ⟨w3.heap.size, 0, none⟩) 0 0) 0 []) := Lib.hid (World.ownsRow_lit (w := w3) (base := w3.heap.size) (e := 3) (size := 1) #[] 0 (Nat.le_refl _) (by unfold maxLen; omega) rfl)
  go_wp2_with fail
  clear l0 x0 x1 x2 x3
  go_loopw [5, 6] (fun x i wr => ∃ (k : Nat), k ≤ al ∧ i = .int .i64 k ∧ (tys vs (l.take k)).2 = 0 ∧ wr.ownsRow w3.heap.size 3 1 x k (vals (tys vs (l.take k)).1) ∧ w3.heap.size ≤ wr.heap.size ∧ Below w3.heap.size w3 wr) (fun _ i _ => al - (RowKit.intOf i).toNat)
  case atStart => exact ⟨0, by omega, rfl, rfl, HO3.out, by simp, bal (bref _) _⟩
  case round =>
    obtain ⟨k, hk, rfl, hz, hO, hsr, hB⟩ := hrel
    have HZ := Lib.hid hz
    have HO := Lib.hid hO
    have HBR := Lib.hid hB
    have HBr := Lib.hid (btr HB3.out HBR.out)
    have BXr := Lib.hid (BX3.out.keep HBR.out)
    clear hz hO hB
    obtain ⟨l0, x0, x1, x2, x3⟩ := BXr.out
    simp only [ho, hen, hX, hal] at x0 x1 x2 x3
    by_cases hlt : k < al
    · have hkz : (k : Int) < (al : Int) := by omega
      have g1 : k < l.length := by rw [HLN.out]; exact hlt
      obtain ⟨b, off, so2, cap2, rfl, hb, c0, c1, c2, c3, hs, hsn⟩ := (HLL.out.keep HBr.out).at k g1
      have ht := tys_take vs l k g1 HZ.out
      have hmem := getD_mem'' E0 l k g1
      have hty := HAV.out (by trivial) (l.getD k E0) hmem
      have C0 := Lib.hid (fun W (hW : Below wr.heap.size wr W) => CA.out (l.getD k E0) hmem so2 cap2 W (btr HBr.out hW) ⟨hs.keep hW, hsn⟩)
      rw [hty] at C0
      have hbad := tys_bad vs l (k + 1)
      obtain ⟨x, hx⟩ : ∃ x, l.getD k E0 = x := ⟨_, rfl⟩
      rw [hx] at c0 c1 c2 c3 ht C0
      obtain ⟨q1, hq1⟩ : ∃ q1, (ty vs x).1 = q1 := ⟨_, rfl⟩
      obtain ⟨q2, hq2⟩ : ∃ q2, (ty vs x).2 = q2 := ⟨_, rfl⟩
      rw [hq1, hq2] at ht C0
      clear hs hsn hx hq1 hq2 g1 hmem hty
      by_cases hq0 : q2 = 0
      · subst hq0
        rw [if_pos rfl] at ht
        have HTK := Lib.hid ht
        clear ht hbad
        go_wp2_with fail
        refine (C0.out _ (bref _)).mono ?_
        rintro r w4 ⟨rfl, hb4⟩
        have HO4 := Lib.hid (own_below HO.out hb4)
        have hs4 : w3.heap.size ≤ w4.heap.size := by have := hb4.size; omega
        have HB4 := Lib.hid (btr HBR.out hb4)
        clear hb4 c0 c1 c2 c3 hb l0 x0 x1 x2 x3
        go_wp2_with (at_builtin; refine wpList_append_one (.int .i64 q1) rfl rfl (.tmp 69) (.tmp 71) 35 rfl w3.heap.size i0 (.int .i64 0) 8 Tryz.underlying35 hi hz0 hz1 hz2 rfl _ _ _ rfl HO4.out rfl rfl (by unfold maxLen; omega) (by omega) hs4 ?_; intro v5 w5 ox gx)
        have HO5 : Hid (w5.ownsRow w3.heap.size 3 1 v5 (k + 1) (vals (tys vs (l.take (k + 1))).1)) := Lib.hid (by rw [HTK.out]; simpa [vals] using ox)
        have hs5 : w3.heap.size ≤ w5.heap.size := by have := gx.size; omega
        have HB5 := Lib.hid (HB4.out.trans gx)
        clear ox gx
        go_wp2_with fail
        go_roundw
        case rel => exact ⟨k + 1, by omega, by go_num, by rw [HTK.out], HO5.out, hs5, HB5.out⟩
        case measure => simp [RowKit.intOf] <;> omega
      · have hqb : (q2 != 0) = true := by rw [bne_iff_ne]; exact hq0
        have hr : q = (0, q2) := by
          have h2 : (tys vs (l.take (k + 1))).2 = q2 := by rw [ht, if_neg hq0]
          rw [HRR.out, hbad (by rw [h2]; exact hq0), h2, if_neg hq0]
        subst hr
        simp only at C1
        have e2 : (q2 == q2) = true := by simp
        clear ht hbad
        go_wp2_with fail
        refine (C0.out _ (bref _)).mono ?_
        rintro r w4 ⟨rfl, hb⟩
        have HB4 := Lib.hid (btr HBr.out hb)
        have BX4 := Lib.hid (BXr.out.keep hb)
        clear hb l0 x0 x1 x2 x3
        obtain ⟨l0, x0, x1, x2, x3⟩ := BX4.out
        simp only [ho, hen, hX, hal] at x0 x1 x2 x3
        go_wp2_with fail
        refine (C1.out _ HB4.out).mono ?_
        rintro r w5 ⟨rfl, hb⟩
        have HB5 := Lib.hid (btr HB4.out hb)
        clear hb l0 x0 x1 x2 x3
        go_wp2_with fail
        refine (CL.out _ HB5.out).mono ?_
        rintro r w9 ⟨rfl, hb9⟩
        go_wp2_with fail
        go_ret
        exact ⟨rfl, btr HB5.out hb9⟩
    · have he : k = al := by omega
      subst he
      have hll : l.take k = l := by rw [← HLN.out, List.take_length]
      obtain ⟨hl1, ao, cp, hx, hI⟩ := own_ints HO.out
      subst hx
      rw [hll] at hl1
      have HI := Lib.hid (show IntsAt ao (tys vs l).1 wr from by rw [← hll]; exact hI)
      have hr : q = opT o (tys vs l).1 := by rw [HRR.out, if_pos (by rw [← hll]; exact HZ.out)]
      have C0 := Lib.hid (fun W (hW : Below wr.heap.size wr W) => mResult o (tys vs l).1 ao cp W (HI.out.keep hW))
      rw [hl1] at C0
      have hno := opT_none (o := o) (l := (tys vs l).1)
      have hso := fun t => opT_some (o := o) (l := (tys vs l).1) (t := t)
      obtain ⟨Q, hQ⟩ : ∃ Q, resO o (tys vs l).1 = Q := ⟨_, rfl⟩
      rw [hQ] at C0 hno
      have hso2 : ∀ t, Q = some t → opT o (tys vs l).1 = (t, 0) := fun t ht => hso t (hQ.trans ht)
      clear hso hQ hI hll hl1
      cases Q with
      | none =>
        have hr2 : q = (0, 3) := by rw [hr]; exact hno rfl
        subst hr2
        simp only [Option.isSome, Option.getD] at C0
        simp only at C1
        clear hno hso2 hr
        go_wp2_with fail
        refine (C0.out _ (bref _)).mono ?_
        rintro r w4 ⟨rfl, hb⟩
        have HB4 := Lib.hid (btr HBr.out hb)
        have BX4 := Lib.hid (BXr.out.keep hb)
        clear hb l0 x0 x1 x2 x3
        obtain ⟨l0, x0, x1, x2, x3⟩ := BX4.out
        simp only [ho, hen, hX, hal] at x0 x1 x2 x3
        go_wp2_with fail
        refine (C1.out _ HB4.out).mono ?_
        rintro r w5 ⟨rfl, hb⟩
        have HB5 := Lib.hid (btr HB4.out hb)
        clear hb l0 x0 x1 x2 x3
        go_wp2_with fail
        refine (CL.out _ HB5.out).mono ?_
        rintro r w9 ⟨rfl, hb9⟩
        go_wp2_with fail
        go_ret
        exact ⟨rfl, btr HB5.out hb9⟩
      | some t =>
        have hr2 : q = (t, 0) := by rw [hr]; exact hso2 t rfl
        subst hr2
        simp only [Option.isSome, Option.getD] at C0
        simp only at C1
        have e2 : (t == t) = true := by simp
        clear hno hso2 hr
        go_wp2_with fail
        refine (C0.out _ (bref _)).mono ?_
        rintro r w4 ⟨rfl, hb⟩
        have HB4 := Lib.hid (btr HBr.out hb)
        have BX4 := Lib.hid (BXr.out.keep hb)
        clear hb l0 x0 x1 x2 x3
        obtain ⟨l0, x0, x1, x2, x3⟩ := BX4.out
        simp only [ho, hen, hX, hal] at x0 x1 x2 x3
        go_wp2_with fail
        refine (C1.out _ HB4.out).mono ?_
        rintro r w5 ⟨rfl, hb⟩
        have HB5 := Lib.hid (btr HB4.out hb)
        clear hb l0 x0 x1 x2 x3
        go_wp2_with fail
        refine (CL.out _ HB5.out).mono ?_
        rintro r w9 ⟨rfl, hb9⟩
        go_wp2_with fail
        go_ret
        exact ⟨rfl, btr HB5.out hb9⟩
end Go.Proofs.YtcnnkobiijhegaaGreatDoor
