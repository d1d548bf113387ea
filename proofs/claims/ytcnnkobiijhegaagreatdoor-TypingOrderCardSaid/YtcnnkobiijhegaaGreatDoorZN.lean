/-
  Lists of variables that the call owns; the walk of TypingOrder.
-/
import Derived.Test.YtcnnkobiijhegaaGreatDoorZI
import Derived.Test.YtcnnkobiijhegaaGreatDoorZJ
namespace Go.Proofs.YtcnnkobiijhegaaGreatDoor
open Go Go.RowKit Go.Lib Go.Shelf WM TM EM YM

def vcell (v : Vr) : List Value := [.string (str v.1), .int .i64 v.2]
def vcells : List Vr → List Value
  | [] => []
  | v :: r => vcell v ++ vcells r
theorem vcells_length (l : List Vr) : (vcells l).length = l.length * 2 := by
  induction l with
  | nil => rfl
  | cons t r ih => show (vcell t ++ vcells r).length = _; rw [List.length_append, ih, List.length_cons]; show 2 + _ = _; omega
theorem vcells_snoc (l : List Vr) (t : Vr) : vcells (l ++ [t]) = vcells l ++ vcell t := by
  induction l with
  | nil => show vcell t ++ [] = [] ++ vcell t; simp
  | cons u r ih => show vcell u ++ vcells (r ++ [t]) = (vcell u ++ vcells r) ++ vcell t; rw [ih, List.append_assoc]
theorem vcells_at (l : List Vr) : ∀ i, i < l.length → (vcells l)[i * 2]? = some (.string (str (l.getD i V0).1)) ∧ (vcells l)[i * 2 + 1]? = some (.int .i64 (l.getD i V0).2) := by
  induction l with
  | nil => intro i hi; exact absurd hi (Nat.not_lt_zero _)
  | cons t r ih =>
    intro i hi
    cases i with
    | zero => exact ⟨rfl, rfl⟩
    | succ i =>
      obtain ⟨h1, h2⟩ := ih i (Nat.lt_of_succ_lt_succ hi)
      have e : ∀ j, (vcells (t :: r))[(i + 1) * 2 + j]? = (vcells r)[i * 2 + j]? := by
        intro j
        show (vcell t ++ vcells r)[(i + 1) * 2 + j]? = _
        rw [List.getElem?_append_right (by show 2 ≤ _; omega)]
        congr 1
        show (i + 1) * 2 + j - 2 = _
        omega
      exact ⟨(e 0).trans h1, (e 1).trans h2⟩
theorem infoVr : (Tryz.prog.info? 41).map (fun i => (i.zero, i.size, i.bytes)) = some (some (.agg #[.string ⟨#[]⟩, .int .i64 0]), 2, 24) := by kernel_rfl
theorem own_vars {w : World} {base n : Nat} {v : Value} {l : List Vr} (h : w.ownsRow base 41 2 v n (vcells l)) :
    l.length = n ∧ ∃ ao cap, v = .slice ao n cap ∧ n ≤ cap ∧ VarsAt ao l w := by
  obtain ⟨h0, h1⟩ := h
  have hl : l.length = n := by rw [vcells_length] at h0; omega
  refine ⟨hl, ?_⟩
  rcases h1 with ⟨rfl, rfl⟩ | ⟨g, cap, cur, rfl, hb, hg, hnc, _, hcs, htake⟩
  · exact ⟨none, 0, rfl, Nat.le_refl _, fun i hi => absurd hi (by omega)⟩
  · refine ⟨some ⟨g, 0, none⟩, cap, rfl, hnc, fun i hi => ⟨g, 0, rfl, (Array.getElem?_eq_some_iff.1 hg).1, ?_⟩⟩
    obtain ⟨t1, t2⟩ := vcells_at l i hi
    have key : ∀ (j : Nat) (x : Value), (vcells l)[j]? = some x → w.cell? ⟨g, 0 + j, none⟩ = some x := by
      intro j x hx
      have hj : j < (vcells l).length := (List.getElem?_eq_some_iff.1 hx).1
      rw [vcells_length] at hj
      rw [Nat.zero_add, cell_of_row _ _ j cur _ (0, 0) hg, ← Array.getElem?_toList, ← hx, ← htake, List.getElem?_take, if_pos (by omega)]
    exact ⟨key _ _ t1, key _ _ t2⟩
theorem news2 (w : World) (x y : Value) (t : TypeId) : ∀ j u, ([x, y] : List Value)[j]? = some u → (w.alloc (.cells #[x, y] t)).cell? ((⟨w.heap.size, 0, none⟩ : Addr).add j) = some u := by
  intro j u hj
  match j, hj with
  | 0, hj => simp at hj; subst hj; simp [Addr.add]
  | 1, hj => simp at hj; subst hj; simp [Addr.add]
/-- 'append' of one variable, just laid, onto a list of the call's own. -/
theorem wpList_append_vr {P : Program} {e : TypeId} {w0 w : World} {ops : Array Oper} {rest : List Oper} {o : Oper} {a : Act} {Q : Exit → Act → World → Prop} (X : ByteArray) (z : Int) (hw : w = w0.alloc (.cells #[.string X, .int .i64 z] e)) (hgd : o.guard = none) (s x : Operand) (t : TypeId)
    (ho : o.op = .call { callee := .builtin .append, args := #[s, x], argTypes := #[t, t] })
    (base : Nat) (i : TypeInfo) (d : Value) (bytes : Nat) (ht : P.underlying t = some (.slice e)) (hi : P.info? e = some i) (hz : i.zero = some d)
    (hsize : i.size = 2) (hby : i.bytes = bytes) (hzs : d.cells.size = 2)
    (v : Value) (n : Nat) (xs : List Value) (hs : a.eval s = v) (hown : w0.ownsRow base e 2 v n xs)
    (hx : a.eval x = .slice (some ⟨w0.heap.size, 0, none⟩) 1 1)
    (h63 : n + 1 ≤ maxLen) (hbytes : (n + 1) * bytes ≤ 140737488355328) (hbase : base ≤ w0.heap.size)
    (h : ∀ v' w', w'.ownsRow base e 2 v' (n + 1) (xs ++ [.string X, .int .i64 z]) → Below base w0 w' → wpList P ops Q rest (a.put o.dst v') w') : wpList P ops Q (o :: rest) a w := by
  subst hw
  have hb : Below w0.heap.size w0 (w0.alloc (.cells #[.string X, .int .i64 z] e)) := bal (bref w0) _
  have ho2 := own_below hown hb
  refine wpList_append_own _ hgd s x t ho base e i d 2 bytes ht hi hz hsize hby hzs (by decide) v n xs hs ho2 ⟨w0.heap.size, 0, none⟩ 1 1 [.string X, .int .i64 z] hx rfl (news2 w0 _ _ _) (by intro u hu; simp at hu; rcases hu with e | e <;> (subst e; rfl)) h63 hbytes (by have := hb.size; omega) fun v' w' h2 h3 _ => ?_
  refine h v' w' h2 ?_
  exact (hb.mono hbase).grown h3 (by have := hb.size; omega) (fun b hb => (ho2.lt b hb).1)
theorem rev_drop (l : List Vr) (j : Nat) (h : j < l.length) : (l.drop j).reverse = (l.drop (j + 1)).reverse ++ [l.getD j V0] := by
  rw [List.drop_eq_getElem_cons h, List.reverse_cons]
  simp [List.getD, h]

set_option maxRecDepth 100000 in
set_option maxHeartbeats 8000000 in
theorem typingOrder (e : Ex) (so : Option Addr) (cap : Nat) (vs : List Vr) (vo : Option Addr) (vc : Nat) (w : World) (hG : Ge w) (hL : Lies (e, so, cap) w) (hv : VarsAt vo vs w) :
    Calls Tryz.prog 5 #[.agg #[.int .i64 e.op, .int .i64 e.n, .string (str e.s), .slice so e.args.length cap], .slice vo vs.length vc] w fun r w' => r = .returned (.bool true) ∧ Below w.heap.size w w' := by
  have HL := Lib.hid hL
  have HV := Lib.hid hv
  have HG := Lib.hid hG
  have CG := Lib.hid (fun W (hW : Below w.heap.size w W) => rgreat e 200 so cap W (by decide) (hL.1.keep hW))
  have CS := Lib.hid (fun W (hW : Below w.heap.size w W) => lshort vs vo vc W (hv.keep hW))
  have CL := Lib.hid (fun W (hW : Below w.heap.size w W) => mlive W (hG.keep hW))
  have BX := Lib.hid (Bx.new w (e, so, cap) 24)
  have HB0 := Lib.hid (show Below w.heap.size w (w.alloc (.cells #[.int .i64 e.op, .int .i64 e.n, .string (str e.s), .slice so e.args.length cap] 24)) from bal (bref w) _)
  have HGR : Hid (grtB e 200 = false → siz e ≤ 200) := Lib.hid (fun h => by unfold grtB at h; have := of_decide_eq_false h; omega)
  have HSH := Lib.hid (short_len (l := vs))
  have CV := Lib.hid (fun W (hW : Below w.heap.size w W) => rVars vs vo vc W (hv.keep hW))
  cases hgr : grtB e 200 with
  | true =>
    rw [hgr] at CG
    clear hgr hL hv hG HL HV HGR HSH CS
    go_enter Tryz.func5, Tryz.ntmps5
    go_wp2_with fail
    refine (CG.out _ HB0.out).mono ?_
    rintro r w1 ⟨rfl, hb1⟩
    have HB1 := Lib.hid (btr HB0.out hb1)
    clear hb1
    go_wp2_with fail
    refine (CL.out _ HB1.out).mono ?_
    rintro r w2 ⟨rfl, hb2⟩
    go_wp2_with fail
    go_ret
    exact ⟨rfl, btr HB1.out hb2⟩
  | false =>
  rw [hgr] at CG
  have hm := HGR.out hgr
  clear hgr HGR
  cases hsh : shortB vs with
  | false =>
    rw [hsh] at CS
    obtain ⟨vn, hvn⟩ : ∃ n, vs.length = n := ⟨_, rfl⟩
    rw [hvn] at CS ⊢
    clear hsh hL hv hG HL HV HSH hm hvn
    go_enter Tryz.func5, Tryz.ntmps5
    go_wp2_with fail
    refine (CG.out _ HB0.out).mono ?_
    rintro r w1 ⟨rfl, hb1⟩
    have HB1 := Lib.hid (btr HB0.out hb1)
    clear hb1
    go_wp2_with fail
    refine (CS.out _ HB1.out).mono ?_
    rintro r w2 ⟨rfl, hb2⟩
    have HB2 := Lib.hid (btr HB1.out hb2)
    clear hb2
    go_wp2_with fail
    refine (CL.out _ HB2.out).mono ?_
    rintro r w3 ⟨rfl, hb3⟩
    go_wp2_with fail
    go_ret
    exact ⟨rfl, btr HB2.out hb3⟩
  | true =>
  rw [hsh] at CS
  have hvl : vs.length ≤ 100000 := by have := HSH.out hsh; omega
  clear hsh HSH
  have BX0 := Lib.hid BX.out
  have C1 := Lib.hid (fun W (hW : Below w.heap.size w W) => mOf vs vo vc hvl e so cap W (by omega) (hG.keep hW) (hv.keep hW) (hL.keep hW))
  have C2 := Lib.hid (fun (bo : Option Addr) (bc : Nat) W (hW : Below w.heap.size w W) (hV : VarsAt bo vs.reverse W) => mOf vs.reverse bo bc (by rw [List.length_reverse]; exact hvl) e so cap W (by omega) (hG.keep hW) hV (hL.keep hW))
  have C3 := Lib.hid (fun (bo : Option Addr) (bc : Nat) W (hW : Below w.heap.size w W) (hc : vs.length ≤ bc) (hV : VarsAt bo vs.reverse W) => mVars vs.reverse bo bc W (hG.keep hW) (by rw [List.length_reverse]; exact hc) hV)
  have HBK := Lib.hid (fun h : vsE vs = 0 => And.intro (ofT_back e vs h) (vsE_back vs h))
  have hvb : (vs.length + 1) * 24 ≤ 140737488355328 := by omega
  obtain ⟨o, ho⟩ : ∃ o, e.op = o := ⟨_, rfl⟩
  obtain ⟨en, hen⟩ : ∃ o, e.n = o := ⟨_, rfl⟩
  obtain ⟨X, hX⟩ : ∃ X, str e.s = X := ⟨_, rfl⟩
  obtain ⟨al, hal⟩ : ∃ o, e.args.length = o := ⟨_, rfl⟩
  obtain ⟨vn, hvn⟩ : ∃ n, vs.length = n := ⟨_, rfl⟩
  obtain ⟨q, hq⟩ : ∃ q, ofT e vs = q := ⟨_, rfl⟩
  obtain ⟨q1, q2⟩ := q
  obtain ⟨V, hV⟩ : ∃ q, vsE vs = q := ⟨_, rfl⟩
  have HVN := Lib.hid hvn
  rw [hV, hq] at HBK
  rw [List.length_reverse] at C2 C3
  rw [ho, hen, hX, hal] at CG
  rw [hvn] at CS
  rw [hvn, hV] at CV
  rw [ho, hen, hX, hal, hvn, hq] at C1
  rw [ho, hen, hX, hal, hvn] at C2
  rw [hvn] at C3
  rw [ho, hen, hX, hal] at HB0
  rw [ho, hen, hX, hal, hvn]
  rw [hvn] at hvl hvb
  simp only at C1
  simp only [ho, hen, hX, hal] at BX0
  clear hL hv hG HL HG hm hq hV BX
  have e1 : (q1 == q1) = true := by simp
  have e2 : (q2 == q2) = true := by simp
  obtain ⟨i0, hi, hz0, hz1, hz2⟩ := info_parts infoVr
  by_cases hv0 : V = 0
  rotate_left
  · have hvb : (V != 0) = true := by rw [bne_iff_ne]; exact hv0
    clear HBK C1 C2 C3
    go_enter Tryz.func5, Tryz.ntmps5
    go_wp2_with fail
    refine (CG.out _ HB0.out).mono ?_
    rintro r w1 ⟨rfl, hb⟩
    have HB1 := Lib.hid (btr HB0.out hb)
    have BX1 := Lib.hid (BX0.out.keep hb)
    clear hb
    obtain ⟨l0, x0, x1, x2, x3⟩ := BX1.out
    simp only [ho, hen, hX, hal] at x0 x1 x2 x3
    go_wp2_with fail
    refine (CS.out _ HB1.out).mono ?_
    rintro r w2 ⟨rfl, hb⟩
    have HB2 := Lib.hid (btr HB1.out hb)
    have BX2 := Lib.hid (BX1.out.keep hb)
    clear hb
    clear l0 x0 x1 x2 x3
    obtain ⟨l0, x0, x1, x2, x3⟩ := BX2.out
    simp only [ho, hen, hX, hal] at x0 x1 x2 x3
    go_wp2_with fail
    refine (CV.out _ HB2.out).mono ?_
    rintro r w3 ⟨rfl, hb⟩
    have HB3 := Lib.hid (btr HB2.out hb)
    have BX3 := Lib.hid (BX2.out.keep hb)
    clear hb
    clear l0 x0 x1 x2 x3
    go_wp2_with fail
    refine (CL.out _ HB3.out).mono ?_
    rintro r w4 ⟨rfl, hb4⟩
    go_wp2_with fail
    go_ret
    exact ⟨rfl, btr HB3.out hb4⟩
  subst hv0
  have HB := Lib.hid (HBK.out rfl)
  rw [HB.out.1] at C2
  rw [HB.out.2] at C3
  simp only at C2
  clear HBK HB
  go_enter Tryz.func5, Tryz.ntmps5
  go_wp2_with fail
  refine (CG.out _ HB0.out).mono ?_
  rintro r w1 ⟨rfl, hb⟩
  have HB1 := Lib.hid (btr HB0.out hb)
  have BX1 := Lib.hid (BX0.out.keep hb)
  clear hb
  obtain ⟨l0, x0, x1, x2, x3⟩ := BX1.out
  simp only [ho, hen, hX, hal] at x0 x1 x2 x3
  go_wp2_with fail
  refine (CS.out _ HB1.out).mono ?_
  rintro r w2 ⟨rfl, hb⟩
  have HB2 := Lib.hid (btr HB1.out hb)
  have BX2 := Lib.hid (BX1.out.keep hb)
  clear hb
  clear l0 x0 x1 x2 x3
  obtain ⟨l0, x0, x1, x2, x3⟩ := BX2.out
  simp only [ho, hen, hX, hal] at x0 x1 x2 x3
  go_wp2_with fail
  refine (CV.out _ HB2.out).mono ?_
  rintro r w3 ⟨rfl, hb⟩
  have HB3 := Lib.hid (btr HB2.out hb)
  have BX3 := Lib.hid (BX2.out.keep hb)
  clear hb
  clear l0 x0 x1 x2 x3
  obtain ⟨l0, x0, x1, x2, x3⟩ := BX3.out
  have HO3 : Hid ((w3.alloc (.cells #[] 41)).ownsRow w3.heap.size 41 2 (.slice (some ⟨w3.heap.size, 0, none⟩) 0 0) 0 []) := Lib.hid (World.ownsRow_lit (w := w3) (base := w3.heap.size) (e := 41) (size := 2) #[] 0 (Nat.le_refl _) (by unfold maxLen; omega) rfl)
  clear x0 x1 x2 x3
  go_wp2_with fail
  go_loopw [5, 6] (fun x i wr => ∃ (m : Nat) (z : Int), m ≤ vn ∧ z = (m : Int) - 1 ∧ i = .int .i64 z ∧ wr.ownsRow w3.heap.size 41 2 x (vn - m) (vcells (vs.drop m).reverse) ∧ w3.heap.size ≤ wr.heap.size ∧ Below w3.heap.size w3 wr) (fun _ i _ => (RowKit.intOf i + 1).toNat)
  case atStart => exact ⟨vn, (vn : Int) - 1, by omega, rfl, by go_num, by rw [← HVN.out, List.drop_length, Nat.sub_self]; exact HO3.out, by simp, bal (bref _) _⟩
  case round =>
    obtain ⟨m, z, hm, hz, rfl, hO, hsr, hB⟩ := hrel
    have HO := Lib.hid hO
    have HBR := Lib.hid hB
    clear hO hB
    cases m with
    | zero =>
      have hz1 : z = -1 := by omega
      subst hz1
      clear hz
      have hown := HO.out
      rw [List.drop_zero] at hown
      obtain ⟨hlr, bo, bc, hx, hbc, hV9⟩ := own_vars hown
      subst hx
      rw [Nat.sub_zero] at hlr hbc
      have HV9 := Lib.hid hV9
      have BXr := Lib.hid (BX3.out.keep HBR.out)
      have HBr := Lib.hid (btr HB3.out HBR.out)
      rw [Nat.sub_zero]
      clear hV9 hown hlr
      obtain ⟨l9, x0, x1, x2, x3⟩ := BXr.out
      simp only [ho, hen, hX, hal] at x0 x1 x2 x3
      go_wp2_with fail
      refine (C1.out _ HBr.out).mono ?_
      rintro r w4 ⟨rfl, hb⟩
      have HB4 := Lib.hid (btr HBr.out hb)
      have BX4 := Lib.hid (BXr.out.keep hb)
      have HV4 := Lib.hid (HV9.out.keep hb)
      clear hb l9 x0 x1 x2 x3
      obtain ⟨l9, x0, x1, x2, x3⟩ := BX4.out
      simp only [ho, hen, hX, hal] at x0 x1 x2 x3
      go_wp2_with fail
      refine (C2.out _ _ _ HB4.out HV4.out).mono ?_
      rintro r w5 ⟨rfl, hb⟩
      have HB5 := Lib.hid (btr HB4.out hb)
      have HV5 := Lib.hid (HV4.out.keep hb)
      clear hb l9 x0 x1 x2 x3
      go_wp2_with fail
      refine (C3.out _ _ _ HB5.out (by omega) HV5.out).mono ?_
      rintro r w6 ⟨rfl, hb⟩
      have HB6 := Lib.hid (btr HB5.out hb)
      clear hb
      go_wp2_with fail
      refine (CL.out _ HB6.out).mono ?_
      rintro r w7 ⟨rfl, hb7⟩
      go_wp2_with fail
      go_ret
      exact ⟨rfl, btr HB6.out hb7⟩
    | succ j =>
      obtain rfl : z = (j : Int) := by omega
      have hjn : j < vn := by omega
      have hjz : (j : Int) < (vn : Int) := by omega
      have hj0 : (0 : Int) ≤ (j : Int) := by omega
      obtain ⟨b, off, rfl, hb, c0, c1⟩ := (HV.out.keep (btr HB3.out HBR.out)) j (by rw [HVN.out]; exact hjn)
      have HRV := Lib.hid (rev_drop vs j (by rw [HVN.out]; exact hjn))
      obtain ⟨v, hv⟩ : ∃ v, vs.getD j V0 = v := ⟨_, rfl⟩
      rw [hv] at c0 c1 HRV
      obtain ⟨s, t⟩ := v
      simp only at c0 c1
      obtain ⟨Y, hY⟩ : ∃ Y, str s = Y := ⟨_, rfl⟩
      have HY := Lib.hid hY
      rw [hY] at c0
      clear hv hY hz
      go_wp2_with (at_builtin; refine wpList_append_vr Y t rfl rfl (.tmp 32) (.tmp 37) 25 rfl w3.heap.size i0 (.agg #[.string ⟨#[]⟩, .int .i64 0]) 24 Tryz.underlying25 hi hz0 hz1 hz2 rfl _ _ _ rfl HO.out rfl (by unfold maxLen; omega) (by omega) hsr ?_; intro v5 w5 ox gx)
      have HO5 : Hid (w5.ownsRow w3.heap.size 41 2 v5 (vn - j) (vcells (vs.drop j).reverse)) := Lib.hid (by
        rw [HRV.out, vcells_snoc, show vn - j = vn - (j + 1) + 1 by omega]
        unfold vcell
        rw [HY.out]
        exact ox)
      have hs5 : w3.heap.size ≤ w5.heap.size := by have := gx.size; omega
      have HB5 := Lib.hid (HBR.out.trans gx)
      clear ox gx
      go_wp2_with fail
      go_roundw
      case rel => exact ⟨j, (j : Int) - 1, by omega, rfl, by go_num, HO5.out, hs5, HB5.out⟩
      case measure => simp [RowKit.intOf] <;> omega
end Go.Proofs.YtcnnkobiijhegaaGreatDoor
