/-
  The walk of TypingSound.
-/
import Derived.Test.YtcnnkobiijhegaaDoorZT
namespace Go.Proofs.YtcnnkobiijhegaaDoor
open Go Go.RowKit Go.Lib Go.Shelf WM TM EM YM

theorem siz_put (vs : List Vr) (n : Int) (s : List UInt8) (e : Ex) : siz (YM.put vs n s e) ≤ siz e := by
  rcases put_cases vs n s e with h | ⟨v, _, _, h⟩
  · rw [h]; exact Nat.le_refl _
  · rw [h, siz_mk, sizs_nil]
    have := siz_pos e
    omega
theorem siz_fill_le (vs : List Vr) (n : Int) : ∀ e, siz (fill vs n e) ≤ siz e := by
  refine ex_ind _ fun e ih => ?_
  by_cases h4 : e.op = 4
  · rw [fill_var vs n h4]; exact siz_put vs n e.s e
  · rw [fill_opr vs n h4, siz_mk, siz_eq e]
    have : ∀ l : List Ex, (∀ x ∈ l, siz (fill vs n x) ≤ siz x) → sizs (l.map (fill vs n)) ≤ sizs l := by
      intro l
      induction l with
      | nil => intro _; exact Nat.le_refl _
      | cons x l ihl =>
        intro h
        rw [List.map_cons, sizs_cons, sizs_cons]
        have h1 := h x (by simp)
        have h2 := ihl fun y hy => h y (by simp [hy])
        omega
    have := this e.args ih
    omega
set_option maxRecDepth 100000 in
set_option maxHeartbeats 8000000 in
theorem typingSound (e : Ex) (so : Option Addr) (cap : Nat) (vs : List Vr) (vo : Option Addr) (vc : Nat) (n : Int) (hn : 0 ≤ n ∧ n ≤ 255) (w : World) (hG : Ge w) (hL : Lies (e, so, cap) w) (hv : VarsAt vo vs w) :
    Calls Tryd.prog 5 #[.agg #[.int .i64 e.op, .int .i64 e.n, .string (str e.s), .slice so e.args.length cap], .slice vo vs.length vc, .int .u8 n] w fun r w' => r = .returned (.bool true) ∧ Below w.heap.size w w' := by
  have HL := Lib.hid hL
  have HV := Lib.hid hv
  have HG := Lib.hid hG
  have CG := Lib.hid (fun W (hW : Below w.heap.size w W) => rgreat e 200 so cap W (by decide) (hL.1.keep hW))
  have CS := Lib.hid (fun W (hW : Below w.heap.size w W) => lshort vs vo vc W (hv.keep hW))
  have CL := Lib.hid (fun W (hW : Below w.heap.size w W) => mlive W (hG.keep hW))
  have BX := Lib.hid (Bx.new w (e, so, cap) 33)
  have HB0 := Lib.hid (show Below w.heap.size w (w.alloc (.cells #[.int .i64 e.op, .int .i64 e.n, .string (str e.s), .slice so e.args.length cap] 33)) from bal (bref w) _)
  have HGR : Hid (grtB e 200 = false → siz e ≤ 200) := Lib.hid (fun h => by unfold grtB at h; have := of_decide_eq_false h; omega)
  have HSH := Lib.hid (short_len (l := vs))
  cases hgr : grtB e 200 with
  | true =>
    rw [hgr] at CG
    clear hgr hL hv hG HL HV HGR HSH CS
    go_enter Tryd.func5, Tryd.ntmps5
    go_wp2_with fail
    refine (CG.out _ HB0.out).mono ?_
    rintro r w1 ⟨rfl, hb1⟩
    have HB1 := Lib.hid (btr HB0.out hb1)
    clear hb1
    go_wp2_with fail
    refine (CL.out _ HB1.out).mono ?_
    rintro r w2 ⟨rfl, hb2⟩
    go_wp2_with fail
    go_ret
    exact ⟨rfl, btr HB1.out hb2⟩
  | false =>
  rw [hgr] at CG
  have hm := HGR.out hgr
  clear hgr HGR
  cases hsh : shortB vs with
  | false =>
    rw [hsh] at CS
    obtain ⟨vn, hvn⟩ : ∃ n, vs.length = n := ⟨_, rfl⟩
    rw [hvn] at CS ⊢
    clear hsh hL hv hG HL HV HSH hm hvn
    go_enter Tryd.func5, Tryd.ntmps5
    go_wp2_with fail
    refine (CG.out _ HB0.out).mono ?_
    rintro r w1 ⟨rfl, hb1⟩
    have HB1 := Lib.hid (btr HB0.out hb1)
    clear hb1
    go_wp2_with fail
    refine (CS.out _ HB1.out).mono ?_
    rintro r w2 ⟨rfl, hb2⟩
    have HB2 := Lib.hid (btr HB1.out hb2)
    clear hb2
    go_wp2_with fail
    refine (CL.out _ HB2.out).mono ?_
    rintro r w3 ⟨rfl, hb3⟩
    go_wp2_with fail
    go_ret
    exact ⟨rfl, btr HB2.out hb3⟩
  | true =>
  rw [hsh] at CS
  have hvl : vs.length ≤ 100000 := by have := HSH.out hsh; omega
  clear hsh HSH
  have C1 := Lib.hid (fun W (hW : Below w.heap.size w W) => mOf vs vo vc hvl e so cap W (by omega) (hG.keep hW) (hv.keep hW) (hL.keep hW))
  have CF := Lib.hid (fun W (hW : Below w.heap.size w W) => mfill vs vo vc hvl n e so cap (fun k => decide (k < W.heap.size)) W (by omega) (fun k hk => of_decide_eq_true hk) (hv.keep hW) (hL.keep hW).all)
  have C2 := Lib.hid (fun so2 cap2 W (hW : Below w.heap.size w W) (hE : Lies (fill vs n e, so2, cap2) W) => mOf vs vo vc hvl (fill vs n e) so2 cap2 W (by have := siz_fill_le vs n e; omega) (hG.keep hW) (hv.keep hW) hE)
  have HFL := Lib.hid (ofT_fill vs n hn e)
  have BX0 := Lib.hid BX.out
  obtain ⟨o, ho⟩ : ∃ o, e.op = o := ⟨_, rfl⟩
  obtain ⟨en, hen⟩ : ∃ o, e.n = o := ⟨_, rfl⟩
  obtain ⟨X, hX⟩ : ∃ X, str e.s = X := ⟨_, rfl⟩
  obtain ⟨al, hal⟩ : ∃ o, e.args.length = o := ⟨_, rfl⟩
  obtain ⟨vn, hvn⟩ : ∃ n, vs.length = n := ⟨_, rfl⟩
  obtain ⟨q, hq⟩ : ∃ q, ofT e vs = q := ⟨_, rfl⟩
  obtain ⟨q1, q2⟩ := q
  obtain ⟨y, hy⟩ : ∃ y, fill vs n e = y := ⟨_, rfl⟩
  obtain ⟨q3, hq3⟩ : ∃ q, ofT y vs = q := ⟨_, rfl⟩
  obtain ⟨q3, q4⟩ := q3
  rw [hy] at CF C2
  rw [hq, hy, hq3] at HFL
  rw [hq3] at C2
  rw [ho, hen, hX, hal] at CG
  rw [hvn] at CS
  rw [ho, hen, hX, hal, hvn, hq] at C1
  rw [ho, hen, hX, hal, hvn] at CF
  rw [hvn] at C2
  rw [ho, hen, hX, hal] at HB0
  rw [ho, hen, hX, hal, hvn]
  simp only at C1 C2 HFL
  simp only [ho, hen, hX, hal] at BX0
  have CQ := Lib.hid (fun W => rgood q1 W)
  have hn0 := hn.1
  have hn1 := hn.2
  clear hL hv hG HL HG HV hm hvl hq hq3 hy BX hn
  by_cases hz : q2 = 0
  · subst hz
    have hgd := (HFL.out rfl).1
    have heq := (HFL.out rfl).2
    injection heq with he3 he4
    subst he3
    subst he4
    rw [hgd] at CQ
    clear HFL hgd
    have e1 : (q3 == q3) = true := by simp
    go_enter Tryd.func5, Tryd.ntmps5
    go_wp2_with fail
    refine (CG.out _ HB0.out).mono ?_
    rintro r w1 ⟨rfl, hb⟩
    have HB1 := Lib.hid (btr HB0.out hb)
    have BX1 := Lib.hid (BX0.out.keep hb)
    clear hb
    obtain ⟨l0, x0, x1, x2, x3⟩ := BX1.out
    simp only [ho, hen, hX, hal] at x0 x1 x2 x3
    go_wp2_with fail
    refine (CS.out _ HB1.out).mono ?_
    rintro r w2 ⟨rfl, hb⟩
    have HB2 := Lib.hid (btr HB1.out hb)
    have BX2 := Lib.hid (BX1.out.keep hb)
    clear hb
    clear l0 x0 x1 x2 x3
    obtain ⟨l0, x0, x1, x2, x3⟩ := BX2.out
    simp only [ho, hen, hX, hal] at x0 x1 x2 x3
    go_wp2_with fail
    refine (C1.out _ HB2.out).mono ?_
    rintro r w3 ⟨rfl, hb⟩
    have HB3 := Lib.hid (btr HB2.out hb)
    have BX3 := Lib.hid (BX2.out.keep hb)
    clear hb
    clear l0 x0 x1 x2 x3
    obtain ⟨l0, x0, x1, x2, x3⟩ := BX3.out
    simp only [ho, hen, hX, hal] at x0 x1 x2 x3
    go_wp2_with fail
    refine (CF.out _ HB3.out).mono ?_
    rintro r w4 ⟨so3, cap3, rfl, hLy, hb⟩
    have HB4 := Lib.hid (btr HB3.out hb)
    have HLY := Lib.hid hLy.free
    clear hb hLy l0 x0 x1 x2 x3
    go_wp2_with fail
    refine (C2.out _ _ _ HB4.out HLY.out).mono ?_
    rintro r w5 ⟨rfl, hb⟩
    have HB5 := Lib.hid (btr HB4.out hb)
    clear hb
    go_wp2_with fail
    refine (CQ.out _).mono ?_
    rintro r w6 ⟨rfl, hb⟩
    have HB6 := Lib.hid (btr HB5.out hb)
    clear hb
    go_wp2_with fail
    refine (CL.out _ HB6.out).mono ?_
    rintro r w9 ⟨rfl, hb9⟩
    go_wp2_with fail
    go_ret
    exact ⟨rfl, btr HB6.out hb9⟩
  · have hzb : (q2 != 0) = true := by rw [bne_iff_ne]; exact hz
    clear HFL CQ
    go_enter Tryd.func5, Tryd.ntmps5
    go_wp2_with fail
    refine (CG.out _ HB0.out).mono ?_
    rintro r w1 ⟨rfl, hb⟩
    have HB1 := Lib.hid (btr HB0.out hb)
    have BX1 := Lib.hid (BX0.out.keep hb)
    clear hb
    obtain ⟨l0, x0, x1, x2, x3⟩ := BX1.out
    simp only [ho, hen, hX, hal] at x0 x1 x2 x3
    go_wp2_with fail
    refine (CS.out _ HB1.out).mono ?_
    rintro r w2 ⟨rfl, hb⟩
    have HB2 := Lib.hid (btr HB1.out hb)
    have BX2 := Lib.hid (BX1.out.keep hb)
    clear hb
    clear l0 x0 x1 x2 x3
    obtain ⟨l0, x0, x1, x2, x3⟩ := BX2.out
    simp only [ho, hen, hX, hal] at x0 x1 x2 x3
    go_wp2_with fail
    refine (C1.out _ HB2.out).mono ?_
    rintro r w3 ⟨rfl, hb⟩
    have HB3 := Lib.hid (btr HB2.out hb)
    have BX3 := Lib.hid (BX2.out.keep hb)
    clear hb
    clear l0 x0 x1 x2 x3
    obtain ⟨l0, x0, x1, x2, x3⟩ := BX3.out
    simp only [ho, hen, hX, hal] at x0 x1 x2 x3
    go_wp2_with fail
    refine (CF.out _ HB3.out).mono ?_
    rintro r w4 ⟨so3, cap3, rfl, hLy, hb⟩
    have HB4 := Lib.hid (btr HB3.out hb)
    have HLY := Lib.hid hLy.free
    clear hb hLy l0 x0 x1 x2 x3
    go_wp2_with fail
    refine (C2.out _ _ _ HB4.out HLY.out).mono ?_
    rintro r w5 ⟨rfl, hb⟩
    have HB5 := Lib.hid (btr HB4.out hb)
    clear hb
    go_wp2_with fail
    refine (CL.out _ HB5.out).mono ?_
    rintro r w9 ⟨rfl, hb9⟩
    go_wp2_with fail
    go_ret
    exact ⟨rfl, btr HB5.out hb9⟩
end Go.Proofs.YtcnnkobiijhegaaDoor
