/-
  The walk of the law that encodings one after the other are that of both lists.
-/
import Derived.Test.YtlgplhekiemeoaaDoorWQ
import Derived.Lib.AppendZerosOnto
namespace Go.Proofs.YtlgplhekiemeoaaDoor
open Go Go.RowKit Go.Lib WM

/-- 'append' onto a list of the call's own, whatever is appended: nil, empty or not. -/
theorem wpList_append_own_any {P : Program} {w : World} {ops : Array Oper} {rest : List Oper} {o : Oper} {a : Act} {Q : Exit → Act → World → Prop} (hgd : o.guard = none) (s x : Operand) (t : TypeId)
    (ho : o.op = .call { callee := .builtin .append, args := #[s, x], argTypes := #[t, t] })
    (base : Nat) (e : TypeId) (i : TypeInfo) (z : Value) (size bytes : Nat) (ht : P.underlying t = some (.slice e)) (hi : P.info? e = some i) (hz : i.zero = some z)
    (hsize : i.size = size) (hby : i.bytes = bytes) (hzs : z.cells.size = size) (hsz : 0 < size)
    (v : Value) (n : Nat) (xs : List Value) (hs : a.eval s = v) (hown : w.ownsRow base e size v n xs)
    (ao : Option Addr) (m c : Nat) (news : List Value) (hx : a.eval x = .slice ao m c) (hl : news.length = m * size) (hnone : ao = none → m = 0 ∧ c = 0) (hnews : ∀ ad, ao = some ad → ∀ j u, news[j]? = some u → w.cell? (ad.add j) = some u) (h1 : ∀ u ∈ news, u.oneCell' = true)
    (h63 : n + m ≤ maxLen) (hbytes : (n + m) * bytes ≤ 140737488355328) (hbase : base ≤ w.heap.size)
    (h : ∀ v' w', w'.ownsRow base e size v' (n + m) (xs ++ news) → w.grownBy w' v.ownBlock → wpList P ops Q rest (a.put o.dst v') w') : wpList P ops Q (o :: rest) a w := by
  cases ao with
  | some ad => exact wpList_append_own w hgd s x t ho base e i z size bytes ht hi hz hsize hby hzs hsz v n xs hs hown ad m c news hx hl (hnews ad rfl) h1 h63 hbytes hbase fun v' w' h2 h3 _ => h v' w' h2 h3
  | none =>
    obtain ⟨rfl, rfl⟩ := hnone rfl
    have hn : news = [] := List.eq_nil_of_length_eq_zero (by simpa using hl)
    subst hn
    refine wpList_plain hgd fun K hK' => ?_
    have hrun := run_append_owned_none (P := P) (w := w) base t o.type e i size ht hi _ n xs hown
    unfold Oper.wp
    simp [execOp, ho, resolve, invoke, builtin, hs, hx, hrun, Result.andThen]
    exact hK' _ _ (by simpa using h v w (by simpa using hown) (World.grownBy.refl _ _))
/-- Cells of a list, as 'append' asks for them. -/
theorem news_of {w : World} {ao : Option Addr} {zs : List ByteArray} (h : TextsAt ao zs w) : ∀ ad, ao = some ad → ∀ j u, (txts zs)[j]? = some u → w.cell? (ad.add j) = some u := by
  intro ad had j u hu
  have hj : j < zs.length := by simpa [txts] using (List.getElem?_eq_some_iff.1 hu).1
  obtain ⟨b, off, hao, _, c⟩ := h j hj
  rw [had] at hao
  cases hao
  have e : (txts zs)[j]? = some (.string (zs.getD j E0)) := by simp [txts, List.getD, hj]
  rw [e] at hu
  cases hu
  rw [Addr.add_lit]
  exact c
theorem one_txts (l : List ByteArray) : ∀ u ∈ txts l, u.oneCell' = true := by
  intro u hu
  simp only [txts, List.mem_map] at hu
  obtain ⟨b, _, rfl⟩ := hu
  rfl

set_option maxRecDepth 100000 in
set_option maxHeartbeats 8000000 in
theorem wireJoins (ao : Option Addr) (l : List ByteArray) (c : Nat) (hs : ∀ x ∈ l, x.size ≤ 281474976710656) (bo : Option Addr) (m : List ByteArray) (d : Nat) (hs2 : ∀ x ∈ m, x.size ≤ 281474976710656) (w : World) (hT : Tb w) (hE : Er w) (h : TextsAt ao l w) (h2 : TextsAt bo m w) (na : ao = none → l.length = 0 ∧ c = 0) (nc : bo = none → m.length = 0 ∧ d = 0) :
    Calls Tryd.prog 8 #[.slice ao l.length c, .slice bo m.length d] w fun e w' => e = .returned (.bool true) ∧ Below w.heap.size w w' := by
  have HT := Lib.hid hT
  have HE := Lib.hid hE
  have LV := Lib.hid (fun W hT hE => live_any W hT hE)
  have HB0 := Lib.hid (bref w)
  obtain ⟨i0, hi, hz0, hz1, hz2⟩ := info_parts infoT
  have HA := Lib.hid h
  have HC := Lib.hid h2
  have NA := Lib.hid na
  have NC := Lib.hid nc
  obtain ⟨n, hn⟩ : ∃ n, l.length = n := ⟨_, rfl⟩
  obtain ⟨k, hk⟩ : ∃ k, m.length = k := ⟨_, rfl⟩
  by_cases hl : 5000 < n
  · have hlz : (5000 : Int) < (n : Int) := by omega
    rw [hn, hk]
    clear hT hE hl hs hs2 h h2 hn hk na nc hi hz0 hz1 hz2
    go_enter Tryd.func8, Tryd.ntmps8
    go_wp2_with fail
    with_reducible refine (LV.out _ (HT.out.keep HB0.out) (HE.out.keep HB0.out)).mono ?_
    rintro e w1 ⟨rfl, q1⟩
    have HB1 := Lib.hid (btr HB0.out q1)
    clear q1
    go_wp2_with fail
    go_ret
    exact ⟨rfl, HB1.out⟩
  · have hlz : ¬ (5000 : Int) < (n : Int) := by omega
    by_cases hl2 : 5000 < k
    · have hl2z : (5000 : Int) < (k : Int) := by omega
      rw [hn, hk]
      clear hT hE hl hl2 hs hs2 h h2 hn hk na nc hi hz0 hz1 hz2
      go_enter Tryd.func8, Tryd.ntmps8
      go_wp2_with fail
      with_reducible refine (LV.out _ (HT.out.keep HB0.out) (HE.out.keep HB0.out)).mono ?_
      rintro e w1 ⟨rfl, q1⟩
      have HB1 := Lib.hid (btr HB0.out q1)
      clear q1
      go_wp2_with fail
      go_ret
      exact ⟨rfl, HB1.out⟩
    · have hl2z : ¬ (5000 : Int) < (k : Int) := by omega
      have Z0 := fun W hA => rsize ao l c (by omega) hs W hA
      have Y0 := fun W hA => rsize bo m d (by omega) hs2 W hA
      have zb : sizeL l ≤ 5000 + 5000 * 281474976710656 := by
        have h1 : ∀ (l : List ByteArray), (∀ x ∈ l, x.size ≤ 281474976710656) → (l.map ByteArray.size).sum ≤ l.length * 281474976710656 := by
          intro l
          induction l with
          | nil => intro _; simp
          | cons x r ih =>
            intro h
            have h1 := h x (by simp)
            have h2 := ih (fun y hy => h y (by simp [hy]))
            simp only [List.map_cons, List.sum_cons, List.length_cons]
            omega
        have := h1 l hs
        unfold sizeL
        have h3 : l.length * 281474976710656 ≤ 5000 * 281474976710656 := Nat.mul_le_mul_right _ (by omega)
        omega
      have yb : sizeL m ≤ 5000 + 5000 * 281474976710656 := by
        have h1 : ∀ (l : List ByteArray), (∀ x ∈ l, x.size ≤ 281474976710656) → (l.map ByteArray.size).sum ≤ l.length * 281474976710656 := by
          intro l
          induction l with
          | nil => intro _; simp
          | cons x r ih =>
            intro h
            have h1 := h x (by simp)
            have h2 := ih (fun y hy => h y (by simp [hy]))
            simp only [List.map_cons, List.sum_cons, List.length_cons]
            omega
        have := h1 m hs2
        unfold sizeL
        have h3 : m.length * 281474976710656 ≤ 5000 * 281474976710656 := Nat.mul_le_mul_right _ (by omega)
        omega
      obtain ⟨Z, hZ⟩ : ∃ Z, sizeL l = Z := ⟨_, rfl⟩
      obtain ⟨Y, hY⟩ : ∃ Y, sizeL m = Y := ⟨_, rfl⟩
      rw [hZ, hn] at Z0
      rw [hY, hk] at Y0
      rw [hZ] at zb
      rw [hY] at yb
      have HZ := Lib.hid Z0
      have HY := Lib.hid Y0
      by_cases hz : 5000 < Z + Y
      · have hzz : (5000 : Int) < (Z : Int) + (Y : Int) := by omega
        rw [hn, hk]
        clear hT hE hl hl2 hs hs2 h h2 hn hk na nc hi hz0 hz1 hz2 Z0 Y0 hZ hY hz
        go_enter Tryd.func8, Tryd.ntmps8
        go_wp2_with fail
        with_reducible refine (HZ.out _ HA.out).mono ?_
        rintro e wz ⟨rfl, rfl⟩
        go_wp2_with fail
        with_reducible refine (HY.out _ HC.out).mono ?_
        rintro e wz ⟨rfl, rfl⟩
        go_wp2_with fail
        with_reducible refine (LV.out _ (HT.out.keep HB0.out) (HE.out.keep HB0.out)).mono ?_
        rintro e w1 ⟨rfl, q1⟩
        have HB1 := Lib.hid (btr HB0.out q1)
        clear q1
        go_wp2_with fail
        go_ret
        exact ⟨rfl, HB1.out⟩
      · have hzz : ¬ (5000 : Int) < (Z : Int) + (Y : Int) := by omega
        have hsz : sizeL (l ++ m) ≤ 10000 := by rw [sizeL_app]; omega
        obtain ⟨b1, b2⟩ := back_texts (l ++ m) hsz
        have P0 := fun W hT hA => mpack ao l c (by omega) W hT hA
        have Q0 := fun W hT hA => mpack bo m d (by omega) W hT hA
        have R0 := fun ro rc W hT hA => mpack ro (l ++ m) rc (by omega) W hT hA
        have hj : str (encL l) ++ str (encL m) = str (encL (l ++ m)) := by rw [str_app, encL_app]
        have hd1 : (str (encL l)).size ≤ 1000000 := (back_texts l (by omega)).2
        have hd2 : (str (encL m)).size ≤ 1000000 := (back_texts m (by omega)).2
        have U0 := fun W hE => munpack (str (encL (l ++ m))) b2 W hE
        rw [b1] at U0
        have hlen : (l ++ m).length = n + k := by rw [List.length_append, hn, hk]
        have S0 : ∀ ao bo ca cb W, TextsAt ao (l ++ m) W → TextsAt bo (l ++ m) W → Calls Tryd.prog 15 #[.slice ao (n + k) ca, .slice bo (n + k) cb] W fun e w' => e = .returned (.bool true) ∧ Below W.heap.size W w' := fun ao bo ca cb W h1 h2 => by
          have := rsameT ao bo (l ++ m) (l ++ m) ca cb (by omega) (by omega) W h1 h2
          rw [decide_eq_true (show l ++ m = l ++ m from rfl), hlen] at this
          exact this
        obtain ⟨D1, hD1⟩ : ∃ D, str (encL l) = D := ⟨_, rfl⟩
        obtain ⟨D2, hD2⟩ : ∃ D, str (encL m) = D := ⟨_, rfl⟩
        obtain ⟨D3, hD3⟩ : ∃ D, str (encL (l ++ m)) = D := ⟨_, rfl⟩
        rw [hD1, hn] at P0
        rw [hD2, hk] at Q0
        rw [hD3, hlen] at R0
        rw [hD3] at U0
        rw [hD1, hD2, hD3] at hj
        rw [hD1] at hd1
        rw [hD2] at hd2
        have HP := Lib.hid P0
        have HQ := Lib.hid Q0
        have HR := Lib.hid R0
        have HU := Lib.hid U0
        have HS := Lib.hid S0
        have HLN := Lib.hid hlen
        have HN := Lib.hid hn
        have HK := Lib.hid hk
        have qa := Lib.hid (bal (bref w) (.cells #[] 9))
        have HO := Lib.hid (World.ownsRow_made (e := 9) (size := 1) (base := w.heap.size) w #[] 0 (Nat.le_refl _) (by unfold maxLen; omega) rfl)
        have hs1 : w.heap.size ≤ (w.alloc (.cells #[] 9)).heap.size := by simp
        rw [hn, hk]
        clear hT hE hl hl2 hs hs2 h h2 hn hk na nc Z0 Y0 hZ hY hz P0 Q0 R0 U0 S0 hlen b1 b2 hsz hD1 hD2 hD3
        go_enter Tryd.func8, Tryd.ntmps8
        go_wp2_with fail
        with_reducible refine (HZ.out _ HA.out).mono ?_
        rintro e wz ⟨rfl, rfl⟩
        go_wp2_with fail
        with_reducible refine (HY.out _ HC.out).mono ?_
        rintro e wz ⟨rfl, rfl⟩
        go_wp2_with (first
          | (at_builtin; refine wpList_append_own_any rfl (.tmp 25) (.tmp 26) 22 rfl w.heap.size 9 i0 (.string ⟨#[]⟩) 1 16 Tryd.underlying22 hi hz0 hz1 hz2 rfl (by decide) _ _ _ rfl HO.out ao n c (txts l) rfl (by simp [txts, HN.out]) (fun h => by have := NA.out h; rw [HN.out] at this; exact this) (news_of (HA.out.keep qa.out)) (one_txts l) (by unfold maxLen; omega) (by omega) hs1 ?_; intro v2 w2 ox gx; have B2 := qa.out.grown gx hs1 (fun b hb => (HO.out.lt b hb).1); have HO2 := Lib.hid ox; have HB2 := Lib.hid B2; have hs2 := B2.size; clear ox gx B2)
          | (at_builtin; refine wpList_append_own_any rfl (.tmp 27) (.tmp 28) 22 rfl w.heap.size 9 i0 (.string ⟨#[]⟩) 1 16 Tryd.underlying22 hi hz0 hz1 hz2 rfl (by decide) _ _ _ rfl HO2.out bo k d (txts m) rfl (by simp [txts, HK.out]) (fun h => by have := NC.out h; rw [HK.out] at this; exact this) (news_of (HC.out.keep HB2.out)) (one_txts m) (by unfold maxLen; omega) (by omega) hs2 ?_; intro v3 w3 oy gy; have B3 := HB2.out.grown gy hs2 (fun b hb => (HO2.out.lt b hb).1); have HO3 := Lib.hid oy; have HB3 := Lib.hid B3; clear oy gy B3))
        have o3 : w3.ownsRow w.heap.size 9 1 v3 (n + k) (txts (l ++ m)) := by
          have h1 := HO3.out
          rw [show 0 + n + k = n + k by omega] at h1
          simpa [txts] using h1
        obtain ⟨_, ro, rc, rfl, hT3⟩ := own_txts o3
        have T3 := Lib.hid hT3
        clear o3 hT3
        go_wp2_with fail
        with_reducible refine (HP.out _ (HT.out.keep HB3.out) (HA.out.keep HB3.out)).mono ?_
        rintro e w4 ⟨rfl, q4⟩
        have HB4 := Lib.hid (btr HB3.out q4)
        have T3a := Lib.hid (T3.out.keep q4)
        clear q4
        go_wp2_with fail
        with_reducible refine (HQ.out _ (HT.out.keep HB4.out) (HC.out.keep HB4.out)).mono ?_
        rintro e w5 ⟨rfl, q5⟩
        have HB5 := Lib.hid (btr HB4.out q5)
        have T3b := Lib.hid (T3a.out.keep q5)
        clear q5
        go_wp2_with fail
        with_reducible refine (HU.out _ (HE.out.keep HB5.out)).mono ?_
        rintro e w6 ⟨ro2, rc2, he, hA6, q6⟩
        simp only [HLN.out] at he
        subst he
        have T4 := Lib.hid (T3b.out.keep q6)
        have T5 := Lib.hid hA6
        have HB6 := Lib.hid (btr HB5.out q6)
        clear hA6 q6
        go_wp2_with fail
        with_reducible refine (HR.out _ _ _ (HT.out.keep HB6.out) T4.out).mono ?_
        rintro e w7 ⟨rfl, q7⟩
        have HB7 := Lib.hid (btr HB6.out q7)
        have T4a := Lib.hid (T4.out.keep q7)
        have T5a := Lib.hid (T5.out.keep q7)
        clear q7
        go_wp2_with fail
        with_reducible refine (HP.out _ (HT.out.keep HB7.out) (HA.out.keep HB7.out)).mono ?_
        rintro e w8 ⟨rfl, q8⟩
        have HB8 := Lib.hid (btr HB7.out q8)
        have T4b := Lib.hid (T4a.out.keep q8)
        have T5b := Lib.hid (T5a.out.keep q8)
        clear q8
        go_wp2_with fail
        with_reducible refine (HQ.out _ (HT.out.keep HB8.out) (HC.out.keep HB8.out)).mono ?_
        rintro e w9 ⟨rfl, q9⟩
        have HB9 := Lib.hid (btr HB8.out q9)
        have T6 := Lib.hid (T4b.out.keep q9)
        have T7 := Lib.hid (T5b.out.keep q9)
        clear q9
        go_wp2_with fail
        with_reducible refine (HS.out _ _ _ _ _ T7.out T6.out).mono ?_
        rintro e w10 ⟨rfl, q10⟩
        have HB10 := Lib.hid (btr HB9.out q10)
        clear q10
        go_wp2_with fail
        with_reducible refine (LV.out _ (HT.out.keep HB10.out) (HE.out.keep HB10.out)).mono ?_
        rintro e w11 ⟨rfl, q11⟩
        have HB11 := Lib.hid (btr HB10.out q11)
        clear q11
        go_wp2_with fail
        go_ret
        exact ⟨rfl, HB11.out⟩
end Go.Proofs.YtlgplhekiemeoaaDoor
