/-
  The contract of the document's own Join; the walk of the law CalendarJoins.
-/
import Derived.Test.YtgljaopnehdgdaaDoorCW
import Derived.Test.YtgljaopnehdgdaaDoorCU
namespace Go.Proofs.YtgljaopnehdgdaaDoor
open Go Go.RowKit Go.Lib WM

set_option maxRecDepth 100000 in
set_option maxHeartbeats 16000000 in
theorem rJoin (nm n2 : ByteArray) (wo hp wo2 hp2 : Option Addr) (wc hc wc2 hc2 : Nat) (we ho we2 ho2 : List Int) (w : World) (hA : CalAt wo hp we ho w) (hB : CalAt wo2 hp2 we2 ho2 w)
    (k1 : NilOk wo wc we) (k2 : NilOk hp hc ho) (k3 : NilOk wo2 wc2 we2) (k4 : NilOk hp2 hc2 ho2) :
    Calls Tryd.prog 32 #[.agg #[.string nm, .slice wo we.length wc, .slice hp ho.length hc], .agg #[.string n2, .slice wo2 we2.length wc2, .slice hp2 ho2.length hc2]] w fun e w' =>
      ∃ uo uc vo vc, e = .returned (.agg #[.string nm, .slice uo (normI (we ++ we2)).length uc, .slice vo (normI (ho ++ ho2)).length vc]) ∧ IntsAt uo (normI (we ++ we2)) w' ∧ IntsAt vo (normI (ho ++ ho2)) w' ∧ Below w.heap.size w w' := by
  have U1 := Lib.hid (fun W hx hy => rjoin wo wo2 wc wc2 we we2 W hA.wl hB.wl hx hy k1 k3)
  have U2 := Lib.hid (fun W hx hy => rjoin hp hp2 hc hc2 ho ho2 W hA.hl hB.hl hx hy k2 k4)
  have HA := Lib.hid hA
  have HB := Lib.hid hB
  clear hA hB k1 k2 k3 k4
  have qa := Lib.hid (bal (bal (bal (bref w) (.cells #[.string nm, .slice wo we.length wc, .slice hp ho.length hc] 24)) (.cells #[.string n2, .slice wo2 we2.length wc2, .slice hp2 ho2.length hc2] 24)) (.cells #[.string ⟨#[]⟩, .slice none 0 0, .slice none 0 0] 24))
  have qs := Lib.hid (show JS w.heap.size w nm (.slice wo we.length wc) (.slice hp ho.length hc) (.slice wo2 we2.length wc2) (.slice hp2 ho2.length hc2) (((w.alloc (.cells #[.string nm, .slice wo we.length wc, .slice hp ho.length hc] 24)).alloc (.cells #[.string n2, .slice wo2 we2.length wc2, .slice hp2 ho2.length hc2] 24)).alloc (.cells #[.string ⟨#[]⟩, .slice none 0 0, .slice none 0 0] 24)).drew from ⟨by simp [go_sem], by simp [go_sem], by simp [go_sem], by simp [go_sem], by simp [go_sem], bdn qa.out 1⟩)
  have qr := Lib.hid (show RBox (w.heap.size + 1 + 1) (.string ⟨#[]⟩) (.slice none 0 0) (.slice none 0 0) (((w.alloc (.cells #[.string nm, .slice wo we.length wc, .slice hp ho.length hc] 24)).alloc (.cells #[.string n2, .slice wo2 we2.length wc2, .slice hp2 ho2.length hc2] 24)).alloc (.cells #[.string ⟨#[]⟩, .slice none 0 0, .slice none 0 0] 24)).drew from ⟨⟨by simp [go_sem], by simp [go_sem], by simp [go_sem]⟩, by simp [go_sem], by simp [go_sem], by simp [go_sem]⟩)
  go_enter Tryd.func32, Tryd.ntmps32
  go_wp2_with fail
  obtain ⟨W0, hW0⟩ : ∃ W0, ((w.alloc (.cells #[.string nm, .slice wo we.length wc, .slice hp ho.length hc] 24)).alloc (.cells #[.string n2, .slice wo2 we2.length wc2, .slice hp2 ho2.length hc2] 24)).alloc (.cells #[.string ⟨#[]⟩, .slice none 0 0, .slice none 0 0] 24) = W0 := ⟨_, rfl⟩
  rw [hW0] at qa qs qr ⊢
  clear hW0
  refine wp_region_held_drew (S := JS w.heap.size w nm (.slice wo we.length wc) (.slice hp ho.length hc) (.slice wo2 we2.length wc2) (.slice hp2 ho2.length hc2)) (by kernel_rfl) qs.out (fun hH0 => ?_)
  refine wpAnyH_take (i := 0) (oi := _) (v := ?_) rfl (by kernel_rfl) (by kernel_rfl) (by kernel_rfl) (fun _ _ _ h => h) (Or.inl ⟨?_, ?_⟩) hH0 ?_
  rotate_left
  · rfl
  · (intro W' hSw; obtain ⟨s0, s1, s2, s3, s4, s5⟩ := hSw; go_simp; (try with_reducible rfl))
  (repeat (first | simp only [Act.put] | simp only [List.setIfInBounds_toArray] | simp only [List.set_cons_zero] | simp only [List.set_cons_succ]))
  refine wpAnyH_take (i := 1) (oi := _) (v := ?_) rfl (by kernel_rfl) (by kernel_rfl) (by kernel_rfl) (fun _ _ _ h => h) (Or.inl ⟨?_, ?_⟩) hH0 ?_
  rotate_left
  · rfl
  · (intro W' hSw; obtain ⟨s0, s1, s2, s3, s4, s5⟩ := hSw; go_simp; (try with_reducible rfl))
  (repeat (first | simp only [Act.put] | simp only [List.setIfInBounds_toArray] | simp only [List.set_cons_zero] | simp only [List.set_cons_succ]))
  refine wpAnyH_take (i := 2) (oi := _) (v := ?_) rfl (by kernel_rfl) (by kernel_rfl) (by kernel_rfl) (fun _ _ _ h => h) (Or.inl ⟨?_, ?_⟩) hH0 ?_
  rotate_left
  · rfl
  · (intro W' hSw; obtain ⟨s0, s1, s2, s3, s4, s5⟩ := hSw; go_simp; (try with_reducible rfl))
  (repeat (first | simp only [Act.put] | simp only [List.setIfInBounds_toArray] | simp only [List.set_cons_zero] | simp only [List.set_cons_succ]))
  refine wpAnyH_take (i := 3) (oi := _) (v := ?_) rfl (by kernel_rfl) (by kernel_rfl) (by kernel_rfl) (fun _ _ _ h => h) (Or.inl ⟨?_, ?_⟩) hH0 ?_
  rotate_left
  · rfl
  · (intro W' hSw; obtain ⟨s0, s1, s2, s3, s4, s5⟩ := hSw; go_simp; (try with_reducible rfl))
  (repeat (first | simp only [Act.put] | simp only [List.setIfInBounds_toArray] | simp only [List.set_cons_zero] | simp only [List.set_cons_succ]))
  refine wpAnyH_take (i := 4) (oi := _) (v := ?_) rfl (by kernel_rfl) (by kernel_rfl) (by kernel_rfl) (fun _ _ _ h => h) (Or.inl ⟨?_, ?_⟩) hH0 ?_
  rotate_left
  · rfl
  · (intro W' hSw; obtain ⟨s0, s1, s2, s3, s4, s5⟩ := hSw; go_simp; (try with_reducible rfl))
  (repeat (first | simp only [Act.put] | simp only [List.setIfInBounds_toArray] | simp only [List.set_cons_zero] | simp only [List.set_cons_succ]))
  refine wpAnyH_take (i := 5) (oi := _) (v := ?_) rfl (by kernel_rfl) (by kernel_rfl) (by kernel_rfl) (fun _ _ _ h => h) (Or.inl ⟨?_, ?_⟩) hH0 ?_
  rotate_left
  · rfl
  · (intro W' hSw; obtain ⟨s0, s1, s2, s3, s4, s5⟩ := hSw; go_simp; (try with_reducible rfl))
  (repeat (first | simp only [Act.put] | simp only [List.setIfInBounds_toArray] | simp only [List.set_cons_zero] | simp only [List.set_cons_succ]))
  refine wpAnyH_take (i := 7) (oi := _) (v := ?_) rfl (by kernel_rfl) (by kernel_rfl) (by kernel_rfl) (fun _ _ _ h => h) (Or.inl ⟨?_, ?_⟩) hH0 ?_
  rotate_left
  · rfl
  · (intro W' hSw; obtain ⟨s0, s1, s2, s3, s4, s5⟩ := hSw; go_simp; (try with_reducible rfl))
  (repeat (first | simp only [Act.put] | simp only [List.setIfInBounds_toArray] | simp only [List.set_cons_zero] | simp only [List.set_cons_succ]))
  refine wpAnyH_take (i := 8) (oi := _) (v := ?_) rfl (by kernel_rfl) (by kernel_rfl) (by kernel_rfl) (fun _ _ _ h => h) (Or.inl ⟨?_, ?_⟩) hH0 ?_
  rotate_left
  · rfl
  · (intro W' hSw; obtain ⟨s0, s1, s2, s3, s4, s5⟩ := hSw; go_simp; (try with_reducible rfl))
  (repeat (first | simp only [Act.put] | simp only [List.setIfInBounds_toArray] | simp only [List.set_cons_zero] | simp only [List.set_cons_succ]))
  refine wpAnyH_take (i := 9) (oi := _) (v := ?_) rfl (by kernel_rfl) (by kernel_rfl) (by kernel_rfl) (fun _ _ _ h => h) (Or.inl ⟨?_, ?_⟩) hH0 ?_
  rotate_left
  · rfl
  · (intro W' hSw; obtain ⟨s0, s1, s2, s3, s4, s5⟩ := hSw; go_simp; (try with_reducible rfl))
  (repeat (first | simp only [Act.put] | simp only [List.setIfInBounds_toArray] | simp only [List.set_cons_zero] | simp only [List.set_cons_succ]))
  refine wpAnyH_take (i := 10) (oi := _) (v := ?_) rfl (by kernel_rfl) (by kernel_rfl) (by kernel_rfl) (fun _ _ _ h => h) (Or.inl ⟨?_, ?_⟩) hH0 ?_
  rotate_left
  · rfl
  · (intro W' hSw; obtain ⟨s0, s1, s2, s3, s4, s5⟩ := hSw; go_simp; (try with_reducible rfl))
  (repeat (first | simp only [Act.put] | simp only [List.setIfInBounds_toArray] | simp only [List.set_cons_zero] | simp only [List.set_cons_succ]))
  refine wpAnyH_ready (rs := [6]) (by kernel_rfl) (by simp) ?_
  refine AllReadyH.cons (o := _) rfl (fun K hK => ?_) AllReadyH.nil
  go_simp
  refine (U1.out _ (HA.out.wk.keep qs.out.2.2.2.2.2) (HB.out.wk.keep qs.out.2.2.2.2.2)).mono ?_
  rintro e W1 ⟨uo1, uc1, rfl, hI1, hb1, hk1⟩
  refine hK.out _ _ (hH0.keep hk1) (fun hH1 => ?_)
  clear hK K
  (repeat (first | simp only [Act.put] | simp only [List.setIfInBounds_toArray] | simp only [List.set_cons_zero] | simp only [List.set_cons_succ]))
  have R1 := qr.out.keep hk1
  refine wpAnyH_ready (rs := [11]) (by kernel_rfl) (by simp) ?_
  refine AllReadyH.cons (o := _) rfl (fun K hK => ?_) AllReadyH.nil
  go_simp
  refine (U2.out _ (HA.out.hd.keep hH1.2.2.2.2.2) (HB.out.hd.keep hH1.2.2.2.2.2)).mono ?_
  rintro e W2 ⟨uo2, uc2, rfl, hI2, hb2, hk2⟩
  refine hK.out _ _ (hH1.keep hk2) (fun hH2 => ?_)
  clear hK K
  (repeat (first | simp only [Act.put] | simp only [List.setIfInBounds_toArray] | simp only [List.set_cons_zero] | simp only [List.set_cons_succ]))
  have R2 := R1.keep hk2
  have J1 := hI1.keep hk2
  have l1 : w.heap.size + 1 + 1 < W0.drew.heap.size := World.block_lt_of_cell? _ _ qr.out.1.1
  have l2 := hk1.size
  clear qr R1 hH0 hH1 qs
  obtain ⟨⟨c0, c1, c2⟩, f0, f1, f2⟩ := R2
  refine wpAnyH_take (i := 12) (oi := _) (v := ?_) rfl (by kernel_rfl) (by kernel_rfl) (by kernel_rfl) (fun _ _ _ h => h) (Or.inl ⟨?_, ?_⟩) hH2 ?_
  rotate_left
  · rfl
  · (intro W' hSw; obtain ⟨s0, s1, s2, s3, s4, s5⟩ := hSw; go_simp; (try with_reducible rfl))
  (repeat (first | simp only [Act.put] | simp only [List.setIfInBounds_toArray] | simp only [List.set_cons_zero] | simp only [List.set_cons_succ]))
  refine wpAnyH_ready (rs := [13]) (by kernel_rfl) (by simp) ?_
  refine AllReadyH.cons (o := _) rfl (fun K hK => ?_) AllReadyH.nil
  go_simp
  have hw3 : w.heap.size ≤ w.heap.size + 1 + 1 := by omega
  refine hK.out _ _ (((hH2.put hw3 0 _).put hw3 1 _).put hw3 2 _) (fun hH3 => ?_)
  clear hK K
  obtain ⟨p0, p1, p2⟩ := put3 c0 c1 c2 (.string nm) (.slice uo1 (normI (we ++ we2)).length uc1) (.slice uo2 (normI (ho ++ ho2)).length uc2)
  have I1 := ((J1.put ⟨w.heap.size + 1 + 1, 0, none⟩ (.string nm) (fun a h _ => by have := hb1 a h; show a.block ≠ w.heap.size + 1 + 1; omega)).put ⟨w.heap.size + 1 + 1, 1, none⟩ (.slice uo1 (normI (we ++ we2)).length uc1) (fun a h _ => by have := hb1 a h; show a.block ≠ w.heap.size + 1 + 1; omega)).put ⟨w.heap.size + 1 + 1, 2, none⟩ (.slice uo2 (normI (ho ++ ho2)).length uc2) (fun a h _ => by have := hb1 a h; show a.block ≠ w.heap.size + 1 + 1; omega)
  have I2 := ((hI2.put ⟨w.heap.size + 1 + 1, 0, none⟩ (.string nm) (fun a h _ => by have := hb2 a h; show a.block ≠ w.heap.size + 1 + 1; omega)).put ⟨w.heap.size + 1 + 1, 1, none⟩ (.slice uo1 (normI (we ++ we2)).length uc1) (fun a h _ => by have := hb2 a h; show a.block ≠ w.heap.size + 1 + 1; omega)).put ⟨w.heap.size + 1 + 1, 2, none⟩ (.slice uo2 (normI (ho ++ ho2)).length uc2) (fun a h _ => by have := hb2 a h; show a.block ≠ w.heap.size + 1 + 1; omega)
  have HB3 := hH3.2.2.2.2.2
  clear hH2 hH3 J1 hI1 hI2 hk1 hk2 c0 c1 c2 f0 f1 f2 U1 U2 HA HB
  refine wpAnyH_done (by kernel_rfl) ?_ _
  go_wp2_with fail
  refine bodyPost_ret (v := .agg #[.string nm, .slice uo1 (normI (we ++ we2)).length uc1, .slice uo2 (normI (ho ++ ho2)).length uc2]) (by simp [results, Tryd.results32, go_sem, p0, p1, p2]) rfl ⟨uo1, uc1, uo2, uc2, rfl, I1, I2, HB3⟩

/-- Three blocks. -/
def KS3 (b1 : Nat) (x1 y1 z1 : Value) (b2 : Nat) (x2 y2 z2 : Value) (b3 : Nat) (x3 y3 z3 : Value) (w : World) (W : World) : Prop := Box3 b1 x1 y1 z1 W ∧ Box3 b2 x2 y2 z2 W ∧ Box3 b3 x3 y3 z3 W ∧ Below w.heap.size w W
theorem KS3.keep {b1 : Nat} {x1 y1 z1 : Value} {b2 : Nat} {x2 y2 z2 : Value} {b3 : Nat} {x3 y3 z3 : Value} {w W W1 : World} (h : KS3 b1 x1 y1 z1 b2 x2 y2 z2 b3 x3 y3 z3 w W) (hk : Below W.heap.size W W1) : KS3 b1 x1 y1 z1 b2 x2 y2 z2 b3 x3 y3 z3 w W1 := ⟨h.1.keep hk, h.2.1.keep hk, h.2.2.1.keep hk, btr h.2.2.2 hk⟩

set_option maxRecDepth 100000 in
set_option maxHeartbeats 16000000 in
theorem wCalendarJoins (nm n2 : ByteArray) (wo hp wo2 hp2 : Option Addr) (wc hc wc2 hc2 : Nat) (we ho we2 ho2 : List Int) (day : Int) (w : World) (hL : Ln w) (hw : IntsAt wo we w) (hh : IntsAt hp ho w) (hw2 : IntsAt wo2 we2 w) (hh2 : IntsAt hp2 ho2 w)
    (k1 : NilOk wo wc we) (k2 : NilOk hp hc ho) (k3 : NilOk wo2 wc2 we2) (k4 : NilOk hp2 hc2 ho2) :
    Calls Tryd.prog 10 #[.agg #[.string nm, .slice wo we.length wc, .slice hp ho.length hc], .agg #[.string n2, .slice wo2 we2.length wc2, .slice hp2 ho2.length hc2], .int .i64 day] w fun e w' => e = .returned (.bool true) ∧ Below w.heap.size w w' := by
  have CF := fun W => mfew nm wo hp wc hc we ho W
  have CG := fun W => mfew n2 wo2 hp2 wc2 hc2 we2 ho2 W
  have HL := Lib.hid hL
  have HX := Lib.hid ((box_new nm wo hp wc hc we ho w).keep (bal (bref _) (.cells #[.string n2, .slice wo2 we2.length wc2, .slice hp2 ho2.length hc2] 24)))
  have HY : Hid (Box3 (w.heap.size + 1) (.string n2) (.slice wo2 we2.length wc2) (.slice hp2 ho2.length hc2) ((w.alloc (.cells #[.string nm, .slice wo we.length wc, .slice hp ho.length hc] 24)).alloc (.cells #[.string n2, .slice wo2 we2.length wc2, .slice hp2 ho2.length hc2] 24))) := Lib.hid (by refine ⟨?_, ?_, ?_⟩ <;> simp [go_sem])
  cases hf : fewB we ho
  · rw [hf] at CF
    have CF := Lib.hid CF
    clear hf hL hw hh hw2 hh2 k1 k2 k3 k4 CG
    go_enter Tryd.func10, Tryd.ntmps10
    go_wp2_with fail
    refine (CF.out _).mono ?_
    rintro e w1 ⟨rfl, q1⟩
    have Z1 := Lib.hid (btr (bal (bal (bref _) _) _) q1)
    clear q1
    go_wp2_with fail
    refine (live_any _ (HL.out.keep Z1.out)).mono ?_
    rintro e w2 ⟨rfl, q2⟩
    have Z2 := Lib.hid (btr Z1.out q2)
    clear q2
    go_wp2_with fail
    go_ret
    exact ⟨rfl, Z2.out⟩
  · rw [hf] at CF
    have CF := Lib.hid CF
    cases hg : fewB we2 ho2
    · rw [hg] at CG
      have CG := Lib.hid CG
      clear hf hg hL hw hh hw2 hh2 k1 k2 k3 k4
      go_enter Tryd.func10, Tryd.ntmps10
      go_wp2_with fail
      refine (CF.out _).mono ?_
      rintro e w1 ⟨rfl, q1⟩
      have X1 := HX.out.keep q1
      have Y1 := HY.out.keep q1
      have Z1 := Lib.hid (btr (bal (bal (bref _) _) _) q1)
      clear q1 HX HY
      have HX := Lib.hid X1
      have HY := Lib.hid Y1
      obtain ⟨x0, x1, x2⟩ := X1
      obtain ⟨y0, y1, y2⟩ := Y1
      go_wp2_with fail
      refine (CG.out _).mono ?_
      rintro e w2 ⟨rfl, q2⟩
      have X1 := HX.out.keep q2
      have Y1 := HY.out.keep q2
      have Z2 := Lib.hid (btr Z1.out q2)
      clear q2 HX HY Z1 x0 x1 x2 y0 y1 y2
      have HX := Lib.hid X1
      have HY := Lib.hid Y1
      obtain ⟨x0, x1, x2⟩ := X1
      obtain ⟨y0, y1, y2⟩ := Y1
      go_wp2_with fail
      refine (live_any _ (HL.out.keep Z2.out)).mono ?_
      rintro e w3 ⟨rfl, q3⟩
      have Z3 := Lib.hid (btr Z2.out q3)
      clear q3
      go_wp2_with fail
      go_ret
      exact ⟨rfl, Z3.out⟩
    · rw [hg] at CG
      have CG := Lib.hid CG
      have hA := few_cal hf hw hh
      have hB := few_cal hg hw2 hh2
      have hfl : ho.length + ho2.length ≤ 400 ∧ we.length ≤ 20 ∧ we2.length ≤ 20 ∧ ho.length ≤ 40 ∧ ho2.length ≤ 40 := by
        simp only [fewB, Bool.and_eq_true, decide_eq_true_eq] at hf hg
        omega
      have C1 := fun W a b => mJoin nm n2 wo hp wo2 hp2 wc hc wc2 hc2 we ho we2 ho2 W a b k1 k2 k3 k4
      have C2 := fun W a b => rJoin nm n2 wo hp wo2 hp2 wc hc wc2 hc2 we ho we2 ho2 W a b k1 k2 k3 k4
      have jo := join_open we we2 ho ho2 day
      have lw := norm_len (we ++ we2)
      have lh := norm_len (ho ++ ho2)
      rw [List.length_append] at lw lh
      have cj : ckE nm.data.toList we ho = 0 → ckE n2.data.toList we2 ho2 = 0 → (normI (we ++ we2)).length ≤ 6 → ckE nm.data.toList (normI (we ++ we2)) (normI (ho ++ ho2)) = 0 := fun a b c => ck_join _ _ _ _ _ _ a b c hfl.1
      obtain ⟨JW, hJW⟩ : ∃ JW, normI (we ++ we2) = JW := ⟨_, rfl⟩
      obtain ⟨JH, hJH⟩ : ∃ JH, normI (ho ++ ho2) = JH := ⟨_, rfl⟩
      rw [hJW] at lw
      rw [hJH] at lh
      rw [hJW, hJH] at jo cj
      simp only [hJW, hJH] at C1 C2
      have hJL : JW.length ≤ 1000000 ∧ JH.length ≤ 1000000 := by omega
      obtain ⟨jl1, jl2⟩ := hJL
      have C3 := Lib.hid (fun uo vo uc vc uo2 vo2 uc2 vc2 W a b => rSame nm nm uo vo uo2 vo2 uc vc uc2 vc2 JW JH JW JH W a b)
      have hsame : sameB nm nm JW JW JH JH = true := by unfold sameB; simp
      rw [hsame] at C3
      have C4 := fun uo vo uc vc W a => mOpen nm uo vo uc vc JW JH day W a
      have C5 := fun W a => mOpen nm wo hp wc hc we ho day W a
      have C6 := fun W a => mOpen n2 wo2 hp2 wc2 hc2 we2 ho2 day W a
      have C7 := fun W a => mCheck nm wo hp wc hc we ho W a
      have C8 := fun W a => mCheck n2 wo2 hp2 wc2 hc2 we2 ho2 W a
      have C9 := fun uo vo uc vc W a => mCheck nm uo vo uc vc JW JH W a
      obtain ⟨OA, hOA⟩ : ∃ OA, opB we ho day = OA := ⟨_, rfl⟩
      obtain ⟨OB, hOB⟩ : ∃ OB, opB we2 ho2 day = OB := ⟨_, rfl⟩
      obtain ⟨EA, hEA⟩ : ∃ EA, ckE nm.data.toList we ho = EA := ⟨_, rfl⟩
      obtain ⟨EB, hEB⟩ : ∃ EB, ckE n2.data.toList we2 ho2 = EB := ⟨_, rfl⟩
      obtain ⟨EJ, hEJ⟩ : ∃ EJ, ckE nm.data.toList JW JH = EJ := ⟨_, rfl⟩
      rw [hOA, hOB] at jo
      simp only [jo] at C4
      simp only [hOA] at C5
      simp only [hOB] at C6
      simp only [hEA] at C7
      simp only [hEB] at C8
      simp only [hEJ] at C9
      rw [hEA, hEB, hEJ] at cj
      obtain ⟨NW, hNW⟩ : ∃ NW, JW.length = NW := ⟨_, rfl⟩
      obtain ⟨NH, hNH⟩ : ∃ NH, JH.length = NH := ⟨_, rfl⟩
      simp only [hNW, hNH] at C1 C2 C3 C4 C9
      rw [hNW] at cj jl1
      rw [hNH] at jl2
      have HJ : Hid (∀ uo vo W, IntsAt uo JW W → IntsAt vo JH W → CalAt uo vo JW JH W) := Lib.hid (fun uo vo W a b => ⟨by rw [hNW]; exact jl1, by rw [hNH]; exact jl2, a, b⟩)
      have C1 := Lib.hid C1
      have C2 := Lib.hid C2
      have C3 := Lib.hid C3
      have C4 := Lib.hid C4
      have C5 := Lib.hid C5
      have C6 := Lib.hid C6
      have C7 := Lib.hid C7
      have C8 := Lib.hid C8
      have C9 := Lib.hid C9
      have HA := Lib.hid hA
      have HB := Lib.hid hB
      have CJ := Lib.hid cj
      clear hf hg hL hw hh hw2 hh2 k1 k2 k3 k4 hA hB hfl jo lw lh cj hJW hJH hsame hOA hOB hEA hEB hEJ hNW hNH
      go_enter Tryd.func10, Tryd.ntmps10
      go_wp2_with fail
      refine (CF.out _).mono ?_
      rintro e w1 ⟨rfl, q1⟩
      have X1 := HX.out.keep q1
      have Y1 := HY.out.keep q1
      have Z1 := Lib.hid (btr (bal (bal (bref _) _) _) q1)
      clear q1 HX HY
      have HX := Lib.hid X1
      have HY := Lib.hid Y1
      obtain ⟨x0, x1, x2⟩ := X1
      obtain ⟨y0, y1, y2⟩ := Y1
      go_wp2_with fail
      refine (CG.out _).mono ?_
      rintro e w2 ⟨rfl, q2⟩
      have X1 := HX.out.keep q2
      have Y1 := HY.out.keep q2
      have Z2 := Lib.hid (btr Z1.out q2)
      clear q2 HX HY Z1 x0 x1 x2 y0 y1 y2
      have HX := Lib.hid X1
      have HY := Lib.hid Y1
      obtain ⟨x0, x1, x2⟩ := X1
      obtain ⟨y0, y1, y2⟩ := Y1
      go_wp2_with fail
      refine (C1.out _ (HA.out.keep Z2.out) (HB.out.keep Z2.out)).mono ?_
      rintro e w3 ⟨uo, uc, vo, vc, rfl, hu, hv, q3⟩
      have qb := bal (bref w3) (.cells #[.string nm, .slice uo NW uc, .slice vo NH vc] 24)
      have XJ : Box3 w3.heap.size (.string nm) (.slice uo NW uc) (.slice vo NH vc) (w3.alloc (.cells #[.string nm, .slice uo NW uc, .slice vo NH vc] 24)) := by refine ⟨?_, ?_, ?_⟩ <;> simp [go_sem]
      have Z3 := Lib.hid (btr (btr Z2.out q3) qb)
      have J3 := Lib.hid (HJ.out uo vo _ (hu.keep qb) (hv.keep qb))
      have HX := Lib.hid ((HX.out.keep q3).keep qb)
      have HY := Lib.hid ((HY.out.keep q3).keep qb)
      have HZ := Lib.hid XJ
      clear q3 qb hu hv Z2 x0 x1 x2 y0 y1 y2 XJ
      go_wp2_with fail
      refine wp_region_held_drew (S := KS3 w.heap.size (.string nm) (.slice wo we.length wc) (.slice hp ho.length hc) (w.heap.size + 1) (.string n2) (.slice wo2 we2.length wc2) (.slice hp2 ho2.length hc2) w3.heap.size (.string nm) (.slice uo NW uc) (.slice vo NH vc) w) (by kernel_rfl) ⟨HX.out.keep (bdn (bref _) 1), HY.out.keep (bdn (bref _) 1), HZ.out.keep (bdn (bref _) 1), bdn Z3.out 1⟩ (fun hH0 => ?_)
      have JJ := Lib.hid (J3.out.keep (bdn (bref _) 1))
      clear HX HY HZ J3
      refine wpAnyH_take (i := 0) (oi := _) (v := ?_) rfl (by kernel_rfl) (by kernel_rfl) (by kernel_rfl) (fun _ _ _ h => h) (Or.inl ⟨?_, ?_⟩) hH0 ?_
      rotate_left
      · kernel_rfl
      · (intro W' hSw; obtain ⟨⟨s0, s1, s2⟩, ⟨r0, r1, r2⟩, ⟨t0, t1, t2⟩, s5⟩ := hSw; go_simp; (try with_reducible rfl))
      (try simp only [List.getElem_toArray])
      (try simp only [List.getElem_cons_succ])
      (try simp only [List.getElem_cons_zero])
      (try simp only [Act.put])
      (try simp only [List.setIfInBounds_toArray])
      (try simp only [List.set_cons_succ])
      (try simp only [List.set_cons_zero])
      refine wpAnyH_take (i := 1) (oi := _) (v := ?_) rfl (by kernel_rfl) (by kernel_rfl) (by kernel_rfl) (fun _ _ _ h => h) (Or.inl ⟨?_, ?_⟩) hH0 ?_
      rotate_left
      · kernel_rfl
      · (intro W' hSw; obtain ⟨⟨s0, s1, s2⟩, ⟨r0, r1, r2⟩, ⟨t0, t1, t2⟩, s5⟩ := hSw; go_simp; (try with_reducible rfl))
      (try simp only [List.getElem_toArray])
      (try simp only [List.getElem_cons_succ])
      (try simp only [List.getElem_cons_zero])
      (try simp only [Act.put])
      (try simp only [List.setIfInBounds_toArray])
      (try simp only [List.set_cons_succ])
      (try simp only [List.set_cons_zero])
      refine wpAnyH_take (i := 2) (oi := _) (v := ?_) rfl (by kernel_rfl) (by kernel_rfl) (by kernel_rfl) (fun _ _ _ h => h) (Or.inl ⟨?_, ?_⟩) hH0 ?_
      rotate_left
      · kernel_rfl
      · (intro W' hSw; obtain ⟨⟨s0, s1, s2⟩, ⟨r0, r1, r2⟩, ⟨t0, t1, t2⟩, s5⟩ := hSw; go_simp; (try with_reducible rfl))
      (try simp only [List.getElem_toArray])
      (try simp only [List.getElem_cons_succ])
      (try simp only [List.getElem_cons_zero])
      (try simp only [Act.put])
      (try simp only [List.setIfInBounds_toArray])
      (try simp only [List.set_cons_succ])
      (try simp only [List.set_cons_zero])
      refine wpAnyH_ready (rs := [3]) (by kernel_rfl) (by simp) ?_
      refine AllReadyH.cons (o := _) rfl (fun K hK => ?_) AllReadyH.nil
      go_simp
      refine (C2.out _ (HA.out.keep hH0.2.2.2) (HB.out.keep hH0.2.2.2)).mono ?_
      rintro e W4 ⟨uo2, uc2, vo2, vc2, rfl, hu, hv, hk⟩
      refine hK.out _ _ (hH0.keep hk) (fun hH1 => ?_)
      clear hK K
      (try simp only [List.getElem_toArray])
      (try simp only [List.getElem_cons_succ])
      (try simp only [List.getElem_cons_zero])
      (try simp only [Act.put])
      (try simp only [List.setIfInBounds_toArray])
      (try simp only [List.set_cons_succ])
      (try simp only [List.set_cons_zero])
      have J4 := Lib.hid (JJ.out.keep hk)
      have K4 := Lib.hid (HJ.out uo2 vo2 _ hu hv)
      clear hu hv JJ hH0
      refine wpAnyH_ready (rs := [4]) (by kernel_rfl) (by simp) ?_
      refine AllReadyH.cons (o := _) rfl (fun K hK => ?_) AllReadyH.nil
      go_simp
      refine (C3.out _ _ _ _ _ _ _ _ _ J4.out K4.out).mono ?_
      rintro e W5 ⟨rfl, hk2⟩
      refine hK.out _ _ (hH1.keep hk2) (fun hH2 => ?_)
      clear hK K
      (try simp only [List.getElem_toArray])
      (try simp only [List.getElem_cons_succ])
      (try simp only [List.getElem_cons_zero])
      (try simp only [Act.put])
      (try simp only [List.setIfInBounds_toArray])
      (try simp only [List.set_cons_succ])
      (try simp only [List.set_cons_zero])
      have J5 := Lib.hid (J4.out.keep hk2)
      clear J4 K4 hH1
      refine wpAnyH_take (i := 5) (oi := _) (v := ?_) rfl (by kernel_rfl) (by kernel_rfl) (by kernel_rfl) (fun _ _ _ h => h) (Or.inl ⟨?_, ?_⟩) hH2 ?_
      rotate_left
      · kernel_rfl
      · (intro W' hSw; obtain ⟨⟨s0, s1, s2⟩, ⟨r0, r1, r2⟩, ⟨t0, t1, t2⟩, s5⟩ := hSw; go_simp; (try with_reducible rfl))
      (try simp only [List.getElem_toArray])
      (try simp only [List.getElem_cons_succ])
      (try simp only [List.getElem_cons_zero])
      (try simp only [Act.put])
      (try simp only [List.setIfInBounds_toArray])
      (try simp only [List.set_cons_succ])
      (try simp only [List.set_cons_zero])
      refine wpAnyH_take (i := 6) (oi := _) (v := ?_) rfl (by kernel_rfl) (by kernel_rfl) (by kernel_rfl) (fun _ _ _ h => h) (Or.inl ⟨?_, ?_⟩) hH2 ?_
      rotate_left
      · kernel_rfl
      · (intro W' hSw; obtain ⟨⟨s0, s1, s2⟩, ⟨r0, r1, r2⟩, ⟨t0, t1, t2⟩, s5⟩ := hSw; go_simp; (try with_reducible rfl))
      (try simp only [List.getElem_toArray])
      (try simp only [List.getElem_cons_succ])
      (try simp only [List.getElem_cons_zero])
      (try simp only [Act.put])
      (try simp only [List.setIfInBounds_toArray])
      (try simp only [List.set_cons_succ])
      (try simp only [List.set_cons_zero])
      refine wpAnyH_take (i := 7) (oi := _) (v := ?_) rfl (by kernel_rfl) (by kernel_rfl) (by kernel_rfl) (fun _ _ _ h => h) (Or.inl ⟨?_, ?_⟩) hH2 ?_
      rotate_left
      · kernel_rfl
      · (intro W' hSw; obtain ⟨⟨s0, s1, s2⟩, ⟨r0, r1, r2⟩, ⟨t0, t1, t2⟩, s5⟩ := hSw; go_simp; (try with_reducible rfl))
      (try simp only [List.getElem_toArray])
      (try simp only [List.getElem_cons_succ])
      (try simp only [List.getElem_cons_zero])
      (try simp only [Act.put])
      (try simp only [List.setIfInBounds_toArray])
      (try simp only [List.set_cons_succ])
      (try simp only [List.set_cons_zero])
      refine wpAnyH_take (i := 8) (oi := _) (v := ?_) rfl (by kernel_rfl) (by kernel_rfl) (by kernel_rfl) (fun _ _ _ h => h) (Or.inl ⟨?_, ?_⟩) hH2 ?_
      rotate_left
      · kernel_rfl
      · (intro W' hSw; obtain ⟨⟨s0, s1, s2⟩, ⟨r0, r1, r2⟩, ⟨t0, t1, t2⟩, s5⟩ := hSw; go_simp; (try with_reducible rfl))
      (try simp only [List.getElem_toArray])
      (try simp only [List.getElem_cons_succ])
      (try simp only [List.getElem_cons_zero])
      (try simp only [Act.put])
      (try simp only [List.setIfInBounds_toArray])
      (try simp only [List.set_cons_succ])
      (try simp only [List.set_cons_zero])
      refine wpAnyH_take (i := 10) (oi := _) (v := ?_) rfl (by kernel_rfl) (by kernel_rfl) (by kernel_rfl) (fun _ _ _ h => h) (Or.inl ⟨?_, ?_⟩) hH2 ?_
      rotate_left
      · kernel_rfl
      · (intro W' hSw; obtain ⟨⟨s0, s1, s2⟩, ⟨r0, r1, r2⟩, ⟨t0, t1, t2⟩, s5⟩ := hSw; go_simp; (try with_reducible rfl))
      (try simp only [List.getElem_toArray])
      (try simp only [List.getElem_cons_succ])
      (try simp only [List.getElem_cons_zero])
      (try simp only [Act.put])
      (try simp only [List.setIfInBounds_toArray])
      (try simp only [List.set_cons_succ])
      (try simp only [List.set_cons_zero])
      refine wpAnyH_take (i := 11) (oi := _) (v := ?_) rfl (by kernel_rfl) (by kernel_rfl) (by kernel_rfl) (fun _ _ _ h => h) (Or.inl ⟨?_, ?_⟩) hH2 ?_
      rotate_left
      · kernel_rfl
      · (intro W' hSw; obtain ⟨⟨s0, s1, s2⟩, ⟨r0, r1, r2⟩, ⟨t0, t1, t2⟩, s5⟩ := hSw; go_simp; (try with_reducible rfl))
      (try simp only [List.getElem_toArray])
      (try simp only [List.getElem_cons_succ])
      (try simp only [List.getElem_cons_zero])
      (try simp only [Act.put])
      (try simp only [List.setIfInBounds_toArray])
      (try simp only [List.set_cons_succ])
      (try simp only [List.set_cons_zero])
      refine wpAnyH_ready (rs := [9]) (by kernel_rfl) (by simp) ?_
      refine AllReadyH.cons (o := _) rfl (fun K hK => ?_) AllReadyH.nil
      go_simp
      refine (C4.out _ _ _ _ _ J5.out).mono ?_
      rintro e W6 ⟨rfl, hk3⟩
      refine hK.out _ _ (hH2.keep hk3) (fun hH3 => ?_)
      clear hK K
      (try simp only [List.getElem_toArray])
      (try simp only [List.getElem_cons_succ])
      (try simp only [List.getElem_cons_zero])
      (try simp only [Act.put])
      (try simp only [List.setIfInBounds_toArray])
      (try simp only [List.set_cons_succ])
      (try simp only [List.set_cons_zero])
      have J6 := Lib.hid (J5.out.keep hk3)
      clear J5 hH2
      refine wpAnyH_ready (rs := [12]) (by kernel_rfl) (by simp) ?_
      refine AllReadyH.cons (o := _) rfl (fun K hK => ?_) AllReadyH.nil
      go_simp
      refine (C5.out _ (HA.out.keep hH3.2.2.2)).mono ?_
      rintro e W7 ⟨rfl, hk4⟩
      refine hK.out _ _ (hH3.keep hk4) (fun hH4 => ?_)
      clear hK K
      (try simp only [List.getElem_toArray])
      (try simp only [List.getElem_cons_succ])
      (try simp only [List.getElem_cons_zero])
      (try simp only [Act.put])
      (try simp only [List.setIfInBounds_toArray])
      (try simp only [List.set_cons_succ])
      (try simp only [List.set_cons_zero])
      have J7 := Lib.hid (J6.out.keep hk4)
      clear J6 hH3
      cases OA
      · refine wpAnyH_take (i := 13) (oi := _) (v := ?_) rfl (by kernel_rfl) (by kernel_rfl) (by kernel_rfl) (fun _ _ _ h => h) (Or.inl ⟨?_, ?_⟩) hH4 ?_
        rotate_left
        · kernel_rfl
        · (intro W' hSw; obtain ⟨⟨s0, s1, s2⟩, ⟨r0, r1, r2⟩, ⟨t0, t1, t2⟩, s5⟩ := hSw; go_simp; (try with_reducible rfl))
        (try simp only [List.getElem_toArray])
        (try simp only [List.getElem_cons_succ])
        (try simp only [List.getElem_cons_zero])
        (try simp only [Act.put])
        (try simp only [List.setIfInBounds_toArray])
        (try simp only [List.set_cons_succ])
        (try simp only [List.set_cons_zero])
        refine wpAnyH_take (i := 14) (oi := _) (v := undef) rfl (by kernel_rfl) (by kernel_rfl) (by kernel_rfl) (fun _ _ _ h => h) (Or.inr ⟨?_, rfl⟩) hH4 ?_
        · kernel_rfl
        (try simp only [List.getElem_toArray])
        (try simp only [List.getElem_cons_succ])
        (try simp only [List.getElem_cons_zero])
        (try simp only [Act.put])
        (try simp only [List.setIfInBounds_toArray])
        (try simp only [List.set_cons_succ])
        (try simp only [List.set_cons_zero])
        refine wpAnyH_take (i := 15) (oi := _) (v := undef) rfl (by kernel_rfl) (by kernel_rfl) (by kernel_rfl) (fun _ _ _ h => h) (Or.inr ⟨?_, rfl⟩) hH4 ?_
        · kernel_rfl
        (try simp only [List.getElem_toArray])
        (try simp only [List.getElem_cons_succ])
        (try simp only [List.getElem_cons_zero])
        (try simp only [Act.put])
        (try simp only [List.setIfInBounds_toArray])
        (try simp only [List.set_cons_succ])
        (try simp only [List.set_cons_zero])
        refine wpAnyH_take (i := 16) (oi := _) (v := undef) rfl (by kernel_rfl) (by kernel_rfl) (by kernel_rfl) (fun _ _ _ h => h) (Or.inr ⟨?_, rfl⟩) hH4 ?_
        · kernel_rfl
        (try simp only [List.getElem_toArray])
        (try simp only [List.getElem_cons_succ])
        (try simp only [List.getElem_cons_zero])
        (try simp only [Act.put])
        (try simp only [List.setIfInBounds_toArray])
        (try simp only [List.set_cons_succ])
        (try simp only [List.set_cons_zero])
        refine wpAnyH_take (i := 17) (oi := _) (v := ?_) rfl (by kernel_rfl) (by kernel_rfl) (by kernel_rfl) (fun _ _ _ h => h) (Or.inl ⟨?_, ?_⟩) hH4 ?_
        rotate_left
        · kernel_rfl
        · (intro W' hSw; obtain ⟨⟨s0, s1, s2⟩, ⟨r0, r1, r2⟩, ⟨t0, t1, t2⟩, s5⟩ := hSw; go_simp; (try with_reducible rfl))
        (try simp only [List.getElem_toArray])
        (try simp only [List.getElem_cons_succ])
        (try simp only [List.getElem_cons_zero])
        (try simp only [Act.put])
        (try simp only [List.setIfInBounds_toArray])
        (try simp only [List.set_cons_succ])
        (try simp only [List.set_cons_zero])
        refine wpAnyH_take (i := 18) (oi := _) (v := ?_) rfl (by kernel_rfl) (by kernel_rfl) (by kernel_rfl) (fun _ _ _ h => h) (Or.inl ⟨?_, ?_⟩) hH4 ?_
        rotate_left
        · kernel_rfl
        · (intro W' hSw; obtain ⟨⟨s0, s1, s2⟩, ⟨r0, r1, r2⟩, ⟨t0, t1, t2⟩, s5⟩ := hSw; go_simp; (try with_reducible rfl))
        (try simp only [List.getElem_toArray])
        (try simp only [List.getElem_cons_succ])
        (try simp only [List.getElem_cons_zero])
        (try simp only [Act.put])
        (try simp only [List.setIfInBounds_toArray])
        (try simp only [List.set_cons_succ])
        (try simp only [List.set_cons_zero])
        refine wpAnyH_take (i := 19) (oi := _) (v := ?_) rfl (by kernel_rfl) (by kernel_rfl) (by kernel_rfl) (fun _ _ _ h => h) (Or.inl ⟨?_, ?_⟩) hH4 ?_
        rotate_left
        · kernel_rfl
        · (intro W' hSw; obtain ⟨⟨s0, s1, s2⟩, ⟨r0, r1, r2⟩, ⟨t0, t1, t2⟩, s5⟩ := hSw; go_simp; (try with_reducible rfl))
        (try simp only [List.getElem_toArray])
        (try simp only [List.getElem_cons_succ])
        (try simp only [List.getElem_cons_zero])
        (try simp only [Act.put])
        (try simp only [List.setIfInBounds_toArray])
        (try simp only [List.set_cons_succ])
        (try simp only [List.set_cons_zero])
        refine wpAnyH_done (by kernel_rfl) ?_ _
        obtain ⟨X1, Y1, XJ, Z9⟩ := hH4
        have HX := Lib.hid X1
        have HY := Lib.hid Y1
        have HZ := Lib.hid XJ
        have Z9 := Lib.hid Z9
        obtain ⟨x0, x1, x2⟩ := X1
        obtain ⟨y0, y1, y2⟩ := Y1
        obtain ⟨t0, t1, t2⟩ := XJ
        by_cases ea : EA = 0
        · subst ea
          by_cases eb : EB = 0
          · subst eb
            by_cases el : NW < 7
            · have elz : (NW : Int) < 7 := by omega
              have ej : EJ = 0 := CJ.out rfl rfl (by omega)
              subst ej
              go_wp2_with fail
              refine (C7.out _ (HA.out.keep Z9.out)).mono ?_
              rintro e v10 ⟨rfl, q⟩
              have X1 := HX.out.keep q
              have Y1 := HY.out.keep q
              have XJ := HZ.out.keep q
              have Z10 := Lib.hid (btr Z9.out q)
              have J10 := Lib.hid (J7.out.keep q)
              clear q HX HY HZ x0 x1 x2 y0 y1 y2 t0 t1 t2
              have HX := Lib.hid X1
              have HY := Lib.hid Y1
              have HZ := Lib.hid XJ
              obtain ⟨x0, x1, x2⟩ := X1
              obtain ⟨y0, y1, y2⟩ := Y1
              obtain ⟨t0, t1, t2⟩ := XJ
              go_wp2_with fail
              refine (C8.out _ (HB.out.keep Z10.out)).mono ?_
              rintro e v11 ⟨rfl, q⟩
              have X1 := HX.out.keep q
              have Y1 := HY.out.keep q
              have XJ := HZ.out.keep q
              have Z11 := Lib.hid (btr Z10.out q)
              have J11 := Lib.hid (J10.out.keep q)
              clear q HX HY HZ x0 x1 x2 y0 y1 y2 t0 t1 t2
              have HX := Lib.hid X1
              have HY := Lib.hid Y1
              have HZ := Lib.hid XJ
              obtain ⟨x0, x1, x2⟩ := X1
              obtain ⟨y0, y1, y2⟩ := Y1
              obtain ⟨t0, t1, t2⟩ := XJ
              go_wp2_with fail
              refine (C9.out _ _ _ _ _ J11.out).mono ?_
              rintro e v12 ⟨rfl, q⟩
              have X1 := HX.out.keep q
              have Y1 := HY.out.keep q
              have XJ := HZ.out.keep q
              have Z12 := Lib.hid (btr Z11.out q)
              have J12 := Lib.hid (J11.out.keep q)
              clear q HX HY HZ x0 x1 x2 y0 y1 y2 t0 t1 t2
              have HX := Lib.hid X1
              have HY := Lib.hid Y1
              have HZ := Lib.hid XJ
              obtain ⟨x0, x1, x2⟩ := X1
              obtain ⟨y0, y1, y2⟩ := Y1
              obtain ⟨t0, t1, t2⟩ := XJ
              go_wp2_with fail
              refine (live_any _ (HL.out.keep Z12.out)).mono ?_
              rintro e v20 ⟨rfl, q⟩
              have ZL := Lib.hid (btr Z12.out q)
              clear q
              go_wp2_with fail
              go_ret
              exact ⟨by first | rfl | simp, ZL.out⟩
            · have elz : ¬ (NW : Int) < 7 := by omega
              go_wp2_with fail
              refine (C7.out _ (HA.out.keep Z9.out)).mono ?_
              rintro e v10 ⟨rfl, q⟩
              have X1 := HX.out.keep q
              have Y1 := HY.out.keep q
              have XJ := HZ.out.keep q
              have Z10 := Lib.hid (btr Z9.out q)
              have J10 := Lib.hid (J7.out.keep q)
              clear q HX HY HZ x0 x1 x2 y0 y1 y2 t0 t1 t2
              have HX := Lib.hid X1
              have HY := Lib.hid Y1
              have HZ := Lib.hid XJ
              obtain ⟨x0, x1, x2⟩ := X1
              obtain ⟨y0, y1, y2⟩ := Y1
              obtain ⟨t0, t1, t2⟩ := XJ
              go_wp2_with fail
              refine (C8.out _ (HB.out.keep Z10.out)).mono ?_
              rintro e v11 ⟨rfl, q⟩
              have X1 := HX.out.keep q
              have Y1 := HY.out.keep q
              have XJ := HZ.out.keep q
              have Z11 := Lib.hid (btr Z10.out q)
              have J11 := Lib.hid (J10.out.keep q)
              clear q HX HY HZ x0 x1 x2 y0 y1 y2 t0 t1 t2
              have HX := Lib.hid X1
              have HY := Lib.hid Y1
              have HZ := Lib.hid XJ
              obtain ⟨x0, x1, x2⟩ := X1
              obtain ⟨y0, y1, y2⟩ := Y1
              obtain ⟨t0, t1, t2⟩ := XJ
              go_wp2_with fail
              refine (live_any _ (HL.out.keep Z11.out)).mono ?_
              rintro e v20 ⟨rfl, q⟩
              have ZL := Lib.hid (btr Z11.out q)
              clear q
              go_wp2_with fail
              go_ret
              exact ⟨by first | rfl | simp, ZL.out⟩
          · have ebd : (EB == 0) = false := by rw [beq_eq_false_iff_ne]; exact eb
            go_wp2_with fail
            refine (C7.out _ (HA.out.keep Z9.out)).mono ?_
            rintro e v10 ⟨rfl, q⟩
            have X1 := HX.out.keep q
            have Y1 := HY.out.keep q
            have XJ := HZ.out.keep q
            have Z10 := Lib.hid (btr Z9.out q)
            have J10 := Lib.hid (J7.out.keep q)
            clear q HX HY HZ x0 x1 x2 y0 y1 y2 t0 t1 t2
            have HX := Lib.hid X1
            have HY := Lib.hid Y1
            have HZ := Lib.hid XJ
            obtain ⟨x0, x1, x2⟩ := X1
            obtain ⟨y0, y1, y2⟩ := Y1
            obtain ⟨t0, t1, t2⟩ := XJ
            go_wp2_with fail
            refine (C8.out _ (HB.out.keep Z10.out)).mono ?_
            rintro e v11 ⟨rfl, q⟩
            have X1 := HX.out.keep q
            have Y1 := HY.out.keep q
            have XJ := HZ.out.keep q
            have Z11 := Lib.hid (btr Z10.out q)
            have J11 := Lib.hid (J10.out.keep q)
            clear q HX HY HZ x0 x1 x2 y0 y1 y2 t0 t1 t2
            have HX := Lib.hid X1
            have HY := Lib.hid Y1
            have HZ := Lib.hid XJ
            obtain ⟨x0, x1, x2⟩ := X1
            obtain ⟨y0, y1, y2⟩ := Y1
            obtain ⟨t0, t1, t2⟩ := XJ
            go_wp2_with fail
            refine (live_any _ (HL.out.keep Z11.out)).mono ?_
            rintro e v20 ⟨rfl, q⟩
            have ZL := Lib.hid (btr Z11.out q)
            clear q
            go_wp2_with fail
            go_ret
            exact ⟨by first | rfl | simp, ZL.out⟩
        · have ead : (EA == 0) = false := by rw [beq_eq_false_iff_ne]; exact ea
          go_wp2_with fail
          refine (C7.out _ (HA.out.keep Z9.out)).mono ?_
          rintro e v10 ⟨rfl, q⟩
          have X1 := HX.out.keep q
          have Y1 := HY.out.keep q
          have XJ := HZ.out.keep q
          have Z10 := Lib.hid (btr Z9.out q)
          have J10 := Lib.hid (J7.out.keep q)
          clear q HX HY HZ x0 x1 x2 y0 y1 y2 t0 t1 t2
          have HX := Lib.hid X1
          have HY := Lib.hid Y1
          have HZ := Lib.hid XJ
          obtain ⟨x0, x1, x2⟩ := X1
          obtain ⟨y0, y1, y2⟩ := Y1
          obtain ⟨t0, t1, t2⟩ := XJ
          go_wp2_with fail
          refine (live_any _ (HL.out.keep Z10.out)).mono ?_
          rintro e v20 ⟨rfl, q⟩
          have ZL := Lib.hid (btr Z10.out q)
          clear q
          go_wp2_with fail
          go_ret
          exact ⟨by first | rfl | simp, ZL.out⟩
      · refine wpAnyH_take (i := 13) (oi := _) (v := ?_) rfl (by kernel_rfl) (by kernel_rfl) (by kernel_rfl) (fun _ _ _ h => h) (Or.inl ⟨?_, ?_⟩) hH4 ?_
        rotate_left
        · kernel_rfl
        · (intro W' hSw; obtain ⟨⟨s0, s1, s2⟩, ⟨r0, r1, r2⟩, ⟨t0, t1, t2⟩, s5⟩ := hSw; go_simp; (try with_reducible rfl))
        (try simp only [List.getElem_toArray])
        (try simp only [List.getElem_cons_succ])
        (try simp only [List.getElem_cons_zero])
        (try simp only [Act.put])
        (try simp only [List.setIfInBounds_toArray])
        (try simp only [List.set_cons_succ])
        (try simp only [List.set_cons_zero])
        refine wpAnyH_take (i := 14) (oi := _) (v := ?_) rfl (by kernel_rfl) (by kernel_rfl) (by kernel_rfl) (fun _ _ _ h => h) (Or.inl ⟨?_, ?_⟩) hH4 ?_
        rotate_left
        · kernel_rfl
        · (intro W' hSw; obtain ⟨⟨s0, s1, s2⟩, ⟨r0, r1, r2⟩, ⟨t0, t1, t2⟩, s5⟩ := hSw; go_simp; (try with_reducible rfl))
        (try simp only [List.getElem_toArray])
        (try simp only [List.getElem_cons_succ])
        (try simp only [List.getElem_cons_zero])
        (try simp only [Act.put])
        (try simp only [List.setIfInBounds_toArray])
        (try simp only [List.set_cons_succ])
        (try simp only [List.set_cons_zero])
        refine wpAnyH_take (i := 15) (oi := _) (v := ?_) rfl (by kernel_rfl) (by kernel_rfl) (by kernel_rfl) (fun _ _ _ h => h) (Or.inl ⟨?_, ?_⟩) hH4 ?_
        rotate_left
        · kernel_rfl
        · (intro W' hSw; obtain ⟨⟨s0, s1, s2⟩, ⟨r0, r1, r2⟩, ⟨t0, t1, t2⟩, s5⟩ := hSw; go_simp; (try with_reducible rfl))
        (try simp only [List.getElem_toArray])
        (try simp only [List.getElem_cons_succ])
        (try simp only [List.getElem_cons_zero])
        (try simp only [Act.put])
        (try simp only [List.setIfInBounds_toArray])
        (try simp only [List.set_cons_succ])
        (try simp only [List.set_cons_zero])
        refine wpAnyH_ready (rs := [16]) (by kernel_rfl) (by simp) ?_
        refine AllReadyH.cons (o := _) rfl (fun K hK => ?_) AllReadyH.nil
        go_simp
        refine (C6.out _ (HB.out.keep hH4.2.2.2)).mono ?_
        rintro e W8 ⟨rfl, hk5⟩
        refine hK.out _ _ (hH4.keep hk5) (fun hH5 => ?_)
        clear hK K
        (try simp only [List.getElem_toArray])
        (try simp only [List.getElem_cons_succ])
        (try simp only [List.getElem_cons_zero])
        (try simp only [Act.put])
        (try simp only [List.setIfInBounds_toArray])
        (try simp only [List.set_cons_succ])
        (try simp only [List.set_cons_zero])
        have J8 := Lib.hid (J7.out.keep hk5)
        clear J7 hH4
        refine wpAnyH_take (i := 17) (oi := _) (v := ?_) rfl (by kernel_rfl) (by kernel_rfl) (by kernel_rfl) (fun _ _ _ h => h) (Or.inl ⟨?_, ?_⟩) hH5 ?_
        rotate_left
        · kernel_rfl
        · (intro W' hSw; obtain ⟨⟨s0, s1, s2⟩, ⟨r0, r1, r2⟩, ⟨t0, t1, t2⟩, s5⟩ := hSw; go_simp; (try with_reducible rfl))
        (try simp only [List.getElem_toArray])
        (try simp only [List.getElem_cons_succ])
        (try simp only [List.getElem_cons_zero])
        (try simp only [Act.put])
        (try simp only [List.setIfInBounds_toArray])
        (try simp only [List.set_cons_succ])
        (try simp only [List.set_cons_zero])
        refine wpAnyH_take (i := 18) (oi := _) (v := ?_) rfl (by kernel_rfl) (by kernel_rfl) (by kernel_rfl) (fun _ _ _ h => h) (Or.inl ⟨?_, ?_⟩) hH5 ?_
        rotate_left
        · kernel_rfl
        · (intro W' hSw; obtain ⟨⟨s0, s1, s2⟩, ⟨r0, r1, r2⟩, ⟨t0, t1, t2⟩, s5⟩ := hSw; go_simp; (try with_reducible rfl))
        (try simp only [List.getElem_toArray])
        (try simp only [List.getElem_cons_succ])
        (try simp only [List.getElem_cons_zero])
        (try simp only [Act.put])
        (try simp only [List.setIfInBounds_toArray])
        (try simp only [List.set_cons_succ])
        (try simp only [List.set_cons_zero])
        refine wpAnyH_take (i := 19) (oi := _) (v := ?_) rfl (by kernel_rfl) (by kernel_rfl) (by kernel_rfl) (fun _ _ _ h => h) (Or.inl ⟨?_, ?_⟩) hH5 ?_
        rotate_left
        · kernel_rfl
        · (intro W' hSw; obtain ⟨⟨s0, s1, s2⟩, ⟨r0, r1, r2⟩, ⟨t0, t1, t2⟩, s5⟩ := hSw; go_simp; (try with_reducible rfl))
        (try simp only [List.getElem_toArray])
        (try simp only [List.getElem_cons_succ])
        (try simp only [List.getElem_cons_zero])
        (try simp only [Act.put])
        (try simp only [List.setIfInBounds_toArray])
        (try simp only [List.set_cons_succ])
        (try simp only [List.set_cons_zero])
        refine wpAnyH_done (by kernel_rfl) ?_ _
        obtain ⟨X1, Y1, XJ, Z9⟩ := hH5
        have HX := Lib.hid X1
        have HY := Lib.hid Y1
        have HZ := Lib.hid XJ
        have Z9 := Lib.hid Z9
        obtain ⟨x0, x1, x2⟩ := X1
        obtain ⟨y0, y1, y2⟩ := Y1
        obtain ⟨t0, t1, t2⟩ := XJ
        by_cases ea : EA = 0
        · subst ea
          by_cases eb : EB = 0
          · subst eb
            by_cases el : NW < 7
            · have elz : (NW : Int) < 7 := by omega
              have ej : EJ = 0 := CJ.out rfl rfl (by omega)
              subst ej
              go_wp2_with fail
              refine (C7.out _ (HA.out.keep Z9.out)).mono ?_
              rintro e v10 ⟨rfl, q⟩
              have X1 := HX.out.keep q
              have Y1 := HY.out.keep q
              have XJ := HZ.out.keep q
              have Z10 := Lib.hid (btr Z9.out q)
              have J10 := Lib.hid (J8.out.keep q)
              clear q HX HY HZ x0 x1 x2 y0 y1 y2 t0 t1 t2
              have HX := Lib.hid X1
              have HY := Lib.hid Y1
              have HZ := Lib.hid XJ
              obtain ⟨x0, x1, x2⟩ := X1
              obtain ⟨y0, y1, y2⟩ := Y1
              obtain ⟨t0, t1, t2⟩ := XJ
              go_wp2_with fail
              refine (C8.out _ (HB.out.keep Z10.out)).mono ?_
              rintro e v11 ⟨rfl, q⟩
              have X1 := HX.out.keep q
              have Y1 := HY.out.keep q
              have XJ := HZ.out.keep q
              have Z11 := Lib.hid (btr Z10.out q)
              have J11 := Lib.hid (J10.out.keep q)
              clear q HX HY HZ x0 x1 x2 y0 y1 y2 t0 t1 t2
              have HX := Lib.hid X1
              have HY := Lib.hid Y1
              have HZ := Lib.hid XJ
              obtain ⟨x0, x1, x2⟩ := X1
              obtain ⟨y0, y1, y2⟩ := Y1
              obtain ⟨t0, t1, t2⟩ := XJ
              go_wp2_with fail
              refine (C9.out _ _ _ _ _ J11.out).mono ?_
              rintro e v12 ⟨rfl, q⟩
              have X1 := HX.out.keep q
              have Y1 := HY.out.keep q
              have XJ := HZ.out.keep q
              have Z12 := Lib.hid (btr Z11.out q)
              have J12 := Lib.hid (J11.out.keep q)
              clear q HX HY HZ x0 x1 x2 y0 y1 y2 t0 t1 t2
              have HX := Lib.hid X1
              have HY := Lib.hid Y1
              have HZ := Lib.hid XJ
              obtain ⟨x0, x1, x2⟩ := X1
              obtain ⟨y0, y1, y2⟩ := Y1
              obtain ⟨t0, t1, t2⟩ := XJ
              go_wp2_with fail
              refine (live_any _ (HL.out.keep Z12.out)).mono ?_
              rintro e v20 ⟨rfl, q⟩
              have ZL := Lib.hid (btr Z12.out q)
              clear q
              go_wp2_with fail
              go_ret
              exact ⟨by first | rfl | simp, ZL.out⟩
            · have elz : ¬ (NW : Int) < 7 := by omega
              go_wp2_with fail
              refine (C7.out _ (HA.out.keep Z9.out)).mono ?_
              rintro e v10 ⟨rfl, q⟩
              have X1 := HX.out.keep q
              have Y1 := HY.out.keep q
              have XJ := HZ.out.keep q
              have Z10 := Lib.hid (btr Z9.out q)
              have J10 := Lib.hid (J8.out.keep q)
              clear q HX HY HZ x0 x1 x2 y0 y1 y2 t0 t1 t2
              have HX := Lib.hid X1
              have HY := Lib.hid Y1
              have HZ := Lib.hid XJ
              obtain ⟨x0, x1, x2⟩ := X1
              obtain ⟨y0, y1, y2⟩ := Y1
              obtain ⟨t0, t1, t2⟩ := XJ
              go_wp2_with fail
              refine (C8.out _ (HB.out.keep Z10.out)).mono ?_
              rintro e v11 ⟨rfl, q⟩
              have X1 := HX.out.keep q
              have Y1 := HY.out.keep q
              have XJ := HZ.out.keep q
              have Z11 := Lib.hid (btr Z10.out q)
              have J11 := Lib.hid (J10.out.keep q)
              clear q HX HY HZ x0 x1 x2 y0 y1 y2 t0 t1 t2
              have HX := Lib.hid X1
              have HY := Lib.hid Y1
              have HZ := Lib.hid XJ
              obtain ⟨x0, x1, x2⟩ := X1
              obtain ⟨y0, y1, y2⟩ := Y1
              obtain ⟨t0, t1, t2⟩ := XJ
              go_wp2_with fail
              refine (live_any _ (HL.out.keep Z11.out)).mono ?_
              rintro e v20 ⟨rfl, q⟩
              have ZL := Lib.hid (btr Z11.out q)
              clear q
              go_wp2_with fail
              go_ret
              exact ⟨by first | rfl | simp, ZL.out⟩
          · have ebd : (EB == 0) = false := by rw [beq_eq_false_iff_ne]; exact eb
            go_wp2_with fail
            refine (C7.out _ (HA.out.keep Z9.out)).mono ?_
            rintro e v10 ⟨rfl, q⟩
            have X1 := HX.out.keep q
            have Y1 := HY.out.keep q
            have XJ := HZ.out.keep q
            have Z10 := Lib.hid (btr Z9.out q)
            have J10 := Lib.hid (J8.out.keep q)
            clear q HX HY HZ x0 x1 x2 y0 y1 y2 t0 t1 t2
            have HX := Lib.hid X1
            have HY := Lib.hid Y1
            have HZ := Lib.hid XJ
            obtain ⟨x0, x1, x2⟩ := X1
            obtain ⟨y0, y1, y2⟩ := Y1
            obtain ⟨t0, t1, t2⟩ := XJ
            go_wp2_with fail
            refine (C8.out _ (HB.out.keep Z10.out)).mono ?_
            rintro e v11 ⟨rfl, q⟩
            have X1 := HX.out.keep q
            have Y1 := HY.out.keep q
            have XJ := HZ.out.keep q
            have Z11 := Lib.hid (btr Z10.out q)
            have J11 := Lib.hid (J10.out.keep q)
            clear q HX HY HZ x0 x1 x2 y0 y1 y2 t0 t1 t2
            have HX := Lib.hid X1
            have HY := Lib.hid Y1
            have HZ := Lib.hid XJ
            obtain ⟨x0, x1, x2⟩ := X1
            obtain ⟨y0, y1, y2⟩ := Y1
            obtain ⟨t0, t1, t2⟩ := XJ
            go_wp2_with fail
            refine (live_any _ (HL.out.keep Z11.out)).mono ?_
            rintro e v20 ⟨rfl, q⟩
            have ZL := Lib.hid (btr Z11.out q)
            clear q
            go_wp2_with fail
            go_ret
            exact ⟨by first | rfl | simp, ZL.out⟩
        · have ead : (EA == 0) = false := by rw [beq_eq_false_iff_ne]; exact ea
          go_wp2_with fail
          refine (C7.out _ (HA.out.keep Z9.out)).mono ?_
          rintro e v10 ⟨rfl, q⟩
          have X1 := HX.out.keep q
          have Y1 := HY.out.keep q
          have XJ := HZ.out.keep q
          have Z10 := Lib.hid (btr Z9.out q)
          have J10 := Lib.hid (J8.out.keep q)
          clear q HX HY HZ x0 x1 x2 y0 y1 y2 t0 t1 t2
          have HX := Lib.hid X1
          have HY := Lib.hid Y1
          have HZ := Lib.hid XJ
          obtain ⟨x0, x1, x2⟩ := X1
          obtain ⟨y0, y1, y2⟩ := Y1
          obtain ⟨t0, t1, t2⟩ := XJ
          go_wp2_with fail
          refine (live_any _ (HL.out.keep Z10.out)).mono ?_
          rintro e v20 ⟨rfl, q⟩
          have ZL := Lib.hid (btr Z10.out q)
          clear q
          go_wp2_with fail
          go_ret
          exact ⟨by first | rfl | simp, ZL.out⟩
end Go.Proofs.YtgljaopnehdgdaaDoor
