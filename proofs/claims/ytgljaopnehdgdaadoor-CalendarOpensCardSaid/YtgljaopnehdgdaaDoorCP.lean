/-
  The contract of package calendar's Join, and of the document's own.
-/
import Derived.Test.YtgljaopnehdgdaaDoorCO
import Derived.Deep.RegionHeld3
namespace Go.Proofs.YtgljaopnehdgdaaDoor
open Go Go.RowKit Go.Lib WM

/-- A nil list has no room. -/
def NilOk (ao : Option Addr) (cap : Nat) (zs : List Int) : Prop := ao = none → zs.length = 0 ∧ cap = 0
/-- What the region of Join reads: the two calendars in their blocks. -/
def JS (b : Nat) (w : World) (nm : ByteArray) (x y x2 y2 : Value) (W : World) : Prop :=
  W.cell? ⟨b, 0, none⟩ = some (.string nm) ∧ W.cell? ⟨b, 1, none⟩ = some x ∧ W.cell? ⟨b, 2, none⟩ = some y ∧ W.cell? ⟨b + 1, 1, none⟩ = some x2 ∧ W.cell? ⟨b + 1, 2, none⟩ = some y2 ∧ Below w.heap.size w W
theorem JS.keep {b : Nat} {w : World} {nm : ByteArray} {x y x2 y2 : Value} {W W1 : World} (h : JS b w nm x y x2 y2 W) (hk : Below W.heap.size W W1) : JS b w nm x y x2 y2 W1 := by
  obtain ⟨h0, h1, h2, h3, h4, h5⟩ := h
  have l1 : b < W.heap.size := World.block_lt_of_cell? W _ h0
  have l2 : b + 1 < W.heap.size := World.block_lt_of_cell? W _ h3
  exact ⟨(hk.cell (p := ⟨b, 0, none⟩) l1).trans h0, (hk.cell (p := ⟨b, 1, none⟩) l1).trans h1, (hk.cell (p := ⟨b, 2, none⟩) l1).trans h2, (hk.cell (p := ⟨b + 1, 1, none⟩) l2).trans h3, (hk.cell (p := ⟨b + 1, 2, none⟩) l2).trans h4, btr h5 hk⟩
theorem JS.put {b : Nat} {w : World} {nm : ByteArray} {x y x2 y2 : Value} {W : World} (h : JS b w nm x y x2 y2 W) (hw : w.heap.size ≤ b + 1 + 1) (o : Nat) (v : Value) : JS b w nm x y x2 y2 (W.setCell ⟨b + 1 + 1, o, none⟩ v) := by
  obtain ⟨h0, h1, h2, h3, h4, h5⟩ := h
  refine ⟨?_, ?_, ?_, ?_, ?_, h5.setCell hw _⟩
  all_goals rw [World.cell?_setCell_other _ _ _ _ (by intro c; injection c with c _ _; omega)]; assumption
/-- The block of the result, while nothing is stored. -/
def RBox (b : Nat) (x y z : Value) (W : World) : Prop := Box3 b x y z W ∧ W.frozen? ⟨b, 0, none⟩ = false ∧ W.frozen? ⟨b, 1, none⟩ = false ∧ W.frozen? ⟨b, 2, none⟩ = false
theorem RBox.keep {b : Nat} {x y z : Value} {w w' : World} (h : RBox b x y z w) (hb : Below w.heap.size w w') : RBox b x y z w' := by
  have hl : b < w.heap.size := World.block_lt_of_cell? w _ h.1.1
  exact ⟨h.1.keep hb, (hb.frozen (p := ⟨b, 0, none⟩) hl).trans h.2.1, (hb.frozen (p := ⟨b, 1, none⟩) hl).trans h.2.2.1, (hb.frozen (p := ⟨b, 2, none⟩) hl).trans h.2.2.2⟩
theorem IntsAt.put {ao : Option Addr} {zs : List Int} {W : World} (h : IntsAt ao zs W) (p : Addr) (v : Value) (hp : ∀ a, ao = some a → zs ≠ [] → a.block ≠ p.block) : IntsAt ao zs (W.setCell p v) := by
  intro i hi
  obtain ⟨b, off, e, hb, c⟩ := h i hi
  refine ⟨b, off, e, by simpa using hb, ?_⟩
  rw [World.cell?_setCell_other _ _ _ _ (by intro x; have := hp _ e (fun k => by rw [k] at hi; exact Nat.not_lt_zero _ hi); rw [x] at this; exact this rfl)]
  exact c
theorem put3 {W : World} {b : Nat} {x0 y0 z0 : Value} (c0 : W.cell? ⟨b, 0, none⟩ = some x0) (c1 : W.cell? ⟨b, 1, none⟩ = some y0) (c2 : W.cell? ⟨b, 2, none⟩ = some z0) (x y z : Value) :
    (((W.setCell ⟨b, 0, none⟩ x).setCell ⟨b, 1, none⟩ y).setCell ⟨b, 2, none⟩ z).cell? ⟨b, 0, none⟩ = some x ∧ (((W.setCell ⟨b, 0, none⟩ x).setCell ⟨b, 1, none⟩ y).setCell ⟨b, 2, none⟩ z).cell? ⟨b, 1, none⟩ = some y ∧ (((W.setCell ⟨b, 0, none⟩ x).setCell ⟨b, 1, none⟩ y).setCell ⟨b, 2, none⟩ z).cell? ⟨b, 2, none⟩ = some z := by
  have h1 : (W.setCell ⟨b, 0, none⟩ x).cell? ⟨b, 1, none⟩ = some y0 := by rw [World.cell?_setCell_other _ _ _ _ (by intro c; injection c with _ c _; omega)]; exact c1
  have h2 : ((W.setCell ⟨b, 0, none⟩ x).setCell ⟨b, 1, none⟩ y).cell? ⟨b, 2, none⟩ = some z0 := by
    rw [World.cell?_setCell_other _ _ _ _ (by intro c; injection c with _ c _; omega), World.cell?_setCell_other _ _ _ _ (by intro c; injection c with _ c _; omega)]; exact c2
  refine ⟨?_, ?_, World.cell?_setCell_same _ _ _ h2⟩
  · rw [World.cell?_setCell_other _ _ _ _ (by intro c; injection c with _ c _; omega), World.cell?_setCell_other _ _ _ _ (by intro c; injection c with _ c _; omega)]
    exact World.cell?_setCell_same _ _ _ c0
  · rw [World.cell?_setCell_other _ _ _ _ (by intro c; injection c with _ c _; omega)]
    exact World.cell?_setCell_same _ _ _ h1

set_option maxRecDepth 100000 in
set_option maxHeartbeats 16000000 in
theorem mJoin (nm n2 : ByteArray) (wo hp wo2 hp2 : Option Addr) (wc hc wc2 hc2 : Nat) (we ho we2 ho2 : List Int) (w : World) (hA : CalAt wo hp we ho w) (hB : CalAt wo2 hp2 we2 ho2 w)
    (k1 : NilOk wo wc we) (k2 : NilOk hp hc ho) (k3 : NilOk wo2 wc2 we2) (k4 : NilOk hp2 hc2 ho2) :
    Calls Tryd.prog 31 #[.agg #[.string nm, .slice wo we.length wc, .slice hp ho.length hc], .agg #[.string n2, .slice wo2 we2.length wc2, .slice hp2 ho2.length hc2]] w fun e w' =>
      ∃ uo uc vo vc, e = .returned (.agg #[.string nm, .slice uo (normI (we ++ we2)).length uc, .slice vo (normI (ho ++ ho2)).length vc]) ∧ IntsAt uo (normI (we ++ we2)) w' ∧ IntsAt vo (normI (ho ++ ho2)) w' ∧ Below w.heap.size w w' := by
  have U1 := Lib.hid (fun W hx hy => munion wo wo2 wc wc2 we we2 W hA.wl hB.wl hx hy k1 k3)
  have U2 := Lib.hid (fun W hx hy => munion hp hp2 hc hc2 ho ho2 W hA.hl hB.hl hx hy k2 k4)
  have HA := Lib.hid hA
  have HB := Lib.hid hB
  clear hA hB k1 k2 k3 k4
  have qa := Lib.hid (bal (bal (bal (bref w) (.cells #[.string nm, .slice wo we.length wc, .slice hp ho.length hc] 24)) (.cells #[.string n2, .slice wo2 we2.length wc2, .slice hp2 ho2.length hc2] 24)) (.cells #[.string ⟨#[]⟩, .slice none 0 0, .slice none 0 0] 24))
  have qs := Lib.hid (show JS w.heap.size w nm (.slice wo we.length wc) (.slice hp ho.length hc) (.slice wo2 we2.length wc2) (.slice hp2 ho2.length hc2) (((w.alloc (.cells #[.string nm, .slice wo we.length wc, .slice hp ho.length hc] 24)).alloc (.cells #[.string n2, .slice wo2 we2.length wc2, .slice hp2 ho2.length hc2] 24)).alloc (.cells #[.string ⟨#[]⟩, .slice none 0 0, .slice none 0 0] 24)).drew from ⟨by simp [go_sem], by simp [go_sem], by simp [go_sem], by simp [go_sem], by simp [go_sem], bdn qa.out 1⟩)
  have qr := Lib.hid (show RBox (w.heap.size + 1 + 1) (.string ⟨#[]⟩) (.slice none 0 0) (.slice none 0 0) (((w.alloc (.cells #[.string nm, .slice wo we.length wc, .slice hp ho.length hc] 24)).alloc (.cells #[.string n2, .slice wo2 we2.length wc2, .slice hp2 ho2.length hc2] 24)).alloc (.cells #[.string ⟨#[]⟩, .slice none 0 0, .slice none 0 0] 24)).drew from ⟨⟨by simp [go_sem], by simp [go_sem], by simp [go_sem]⟩, by simp [go_sem], by simp [go_sem], by simp [go_sem]⟩)
  go_enter Tryd.func31, Tryd.ntmps31
  go_wp2_with fail
  obtain ⟨W0, hW0⟩ : ∃ W0, ((w.alloc (.cells #[.string nm, .slice wo we.length wc, .slice hp ho.length hc] 24)).alloc (.cells #[.string n2, .slice wo2 we2.length wc2, .slice hp2 ho2.length hc2] 24)).alloc (.cells #[.string ⟨#[]⟩, .slice none 0 0, .slice none 0 0] 24) = W0 := ⟨_, rfl⟩
  rw [hW0] at qa qs qr ⊢
  clear hW0
  refine wp_region_held_drew (S := JS w.heap.size w nm (.slice wo we.length wc) (.slice hp ho.length hc) (.slice wo2 we2.length wc2) (.slice hp2 ho2.length hc2)) (by kernel_rfl) qs.out (fun hH0 => ?_)
  refine wpAnyH_take (i := 0) (oi := _) (v := ?_) rfl (by kernel_rfl) (by kernel_rfl) (by kernel_rfl) (fun _ _ _ h => h) (Or.inl ⟨?_, ?_⟩) hH0 ?_
  rotate_left
  · rfl
  · (intro W' hSw; obtain ⟨s0, s1, s2, s3, s4, s5⟩ := hSw; go_simp; (try with_reducible rfl))
  (repeat (first | simp only [Act.put] | simp only [List.setIfInBounds_toArray] | simp only [List.set_cons_zero] | simp only [List.set_cons_succ]))
  refine wpAnyH_take (i := 1) (oi := _) (v := ?_) rfl (by kernel_rfl) (by kernel_rfl) (by kernel_rfl) (fun _ _ _ h => h) (Or.inl ⟨?_, ?_⟩) hH0 ?_
  rotate_left
  · rfl
  · (intro W' hSw; obtain ⟨s0, s1, s2, s3, s4, s5⟩ := hSw; go_simp; (try with_reducible rfl))
  (repeat (first | simp only [Act.put] | simp only [List.setIfInBounds_toArray] | simp only [List.set_cons_zero] | simp only [List.set_cons_succ]))
  refine wpAnyH_take (i := 2) (oi := _) (v := ?_) rfl (by kernel_rfl) (by kernel_rfl) (by kernel_rfl) (fun _ _ _ h => h) (Or.inl ⟨?_, ?_⟩) hH0 ?_
  rotate_left
  · rfl
  · (intro W' hSw; obtain ⟨s0, s1, s2, s3, s4, s5⟩ := hSw; go_simp; (try with_reducible rfl))
  (repeat (first | simp only [Act.put] | simp only [List.setIfInBounds_toArray] | simp only [List.set_cons_zero] | simp only [List.set_cons_succ]))
  refine wpAnyH_take (i := 3) (oi := _) (v := ?_) rfl (by kernel_rfl) (by kernel_rfl) (by kernel_rfl) (fun _ _ _ h => h) (Or.inl ⟨?_, ?_⟩) hH0 ?_
  rotate_left
  · rfl
  · (intro W' hSw; obtain ⟨s0, s1, s2, s3, s4, s5⟩ := hSw; go_simp; (try with_reducible rfl))
  (repeat (first | simp only [Act.put] | simp only [List.setIfInBounds_toArray] | simp only [List.set_cons_zero] | simp only [List.set_cons_succ]))
  refine wpAnyH_take (i := 4) (oi := _) (v := ?_) rfl (by kernel_rfl) (by kernel_rfl) (by kernel_rfl) (fun _ _ _ h => h) (Or.inl ⟨?_, ?_⟩) hH0 ?_
  rotate_left
  · rfl
  · (intro W' hSw; obtain ⟨s0, s1, s2, s3, s4, s5⟩ := hSw; go_simp; (try with_reducible rfl))
  (repeat (first | simp only [Act.put] | simp only [List.setIfInBounds_toArray] | simp only [List.set_cons_zero] | simp only [List.set_cons_succ]))
  refine wpAnyH_take (i := 5) (oi := _) (v := ?_) rfl (by kernel_rfl) (by kernel_rfl) (by kernel_rfl) (fun _ _ _ h => h) (Or.inl ⟨?_, ?_⟩) hH0 ?_
  rotate_left
  · rfl
  · (intro W' hSw; obtain ⟨s0, s1, s2, s3, s4, s5⟩ := hSw; go_simp; (try with_reducible rfl))
  (repeat (first | simp only [Act.put] | simp only [List.setIfInBounds_toArray] | simp only [List.set_cons_zero] | simp only [List.set_cons_succ]))
  refine wpAnyH_take (i := 7) (oi := _) (v := ?_) rfl (by kernel_rfl) (by kernel_rfl) (by kernel_rfl) (fun _ _ _ h => h) (Or.inl ⟨?_, ?_⟩) hH0 ?_
  rotate_left
  · rfl
  · (intro W' hSw; obtain ⟨s0, s1, s2, s3, s4, s5⟩ := hSw; go_simp; (try with_reducible rfl))
  (repeat (first | simp only [Act.put] | simp only [List.setIfInBounds_toArray] | simp only [List.set_cons_zero] | simp only [List.set_cons_succ]))
  refine wpAnyH_take (i := 8) (oi := _) (v := ?_) rfl (by kernel_rfl) (by kernel_rfl) (by kernel_rfl) (fun _ _ _ h => h) (Or.inl ⟨?_, ?_⟩) hH0 ?_
  rotate_left
  · rfl
  · (intro W' hSw; obtain ⟨s0, s1, s2, s3, s4, s5⟩ := hSw; go_simp; (try with_reducible rfl))
  (repeat (first | simp only [Act.put] | simp only [List.setIfInBounds_toArray] | simp only [List.set_cons_zero] | simp only [List.set_cons_succ]))
  refine wpAnyH_take (i := 9) (oi := _) (v := ?_) rfl (by kernel_rfl) (by kernel_rfl) (by kernel_rfl) (fun _ _ _ h => h) (Or.inl ⟨?_, ?_⟩) hH0 ?_
  rotate_left
  · rfl
  · (intro W' hSw; obtain ⟨s0, s1, s2, s3, s4, s5⟩ := hSw; go_simp; (try with_reducible rfl))
  (repeat (first | simp only [Act.put] | simp only [List.setIfInBounds_toArray] | simp only [List.set_cons_zero] | simp only [List.set_cons_succ]))
  refine wpAnyH_take (i := 10) (oi := _) (v := ?_) rfl (by kernel_rfl) (by kernel_rfl) (by kernel_rfl) (fun _ _ _ h => h) (Or.inl ⟨?_, ?_⟩) hH0 ?_
  rotate_left
  · rfl
  · (intro W' hSw; obtain ⟨s0, s1, s2, s3, s4, s5⟩ := hSw; go_simp; (try with_reducible rfl))
  (repeat (first | simp only [Act.put] | simp only [List.setIfInBounds_toArray] | simp only [List.set_cons_zero] | simp only [List.set_cons_succ]))
  refine wpAnyH_ready (rs := [6]) (by kernel_rfl) (by simp) ?_
  refine AllReadyH.cons (o := _) rfl (fun K hK => ?_) AllReadyH.nil
  go_simp
  refine (U1.out _ (HA.out.wk.keep qs.out.2.2.2.2.2) (HB.out.wk.keep qs.out.2.2.2.2.2)).mono ?_
  rintro e W1 ⟨uo1, uc1, rfl, hI1, hb1, hk1⟩
  refine hK.out _ _ (hH0.keep hk1) (fun hH1 => ?_)
  clear hK K
  (repeat (first | simp only [Act.put] | simp only [List.setIfInBounds_toArray] | simp only [List.set_cons_zero] | simp only [List.set_cons_succ]))
  have R1 := qr.out.keep hk1
  refine wpAnyH_ready (rs := [11]) (by kernel_rfl) (by simp) ?_
  refine AllReadyH.cons (o := _) rfl (fun K hK => ?_) AllReadyH.nil
  go_simp
  refine (U2.out _ (HA.out.hd.keep hH1.2.2.2.2.2) (HB.out.hd.keep hH1.2.2.2.2.2)).mono ?_
  rintro e W2 ⟨uo2, uc2, rfl, hI2, hb2, hk2⟩
  refine hK.out _ _ (hH1.keep hk2) (fun hH2 => ?_)
  clear hK K
  (repeat (first | simp only [Act.put] | simp only [List.setIfInBounds_toArray] | simp only [List.set_cons_zero] | simp only [List.set_cons_succ]))
  have R2 := R1.keep hk2
  have J1 := hI1.keep hk2
  have l1 : w.heap.size + 1 + 1 < W0.drew.heap.size := World.block_lt_of_cell? _ _ qr.out.1.1
  have l2 := hk1.size
  clear qr R1 hH0 hH1 qs
  obtain ⟨⟨c0, c1, c2⟩, f0, f1, f2⟩ := R2
  refine wpAnyH_take (i := 12) (oi := _) (v := ?_) rfl (by kernel_rfl) (by kernel_rfl) (by kernel_rfl) (fun _ _ _ h => h) (Or.inl ⟨?_, ?_⟩) hH2 ?_
  rotate_left
  · rfl
  · (intro W' hSw; obtain ⟨s0, s1, s2, s3, s4, s5⟩ := hSw; go_simp; (try with_reducible rfl))
  (repeat (first | simp only [Act.put] | simp only [List.setIfInBounds_toArray] | simp only [List.set_cons_zero] | simp only [List.set_cons_succ]))
  refine wpAnyH_ready (rs := [13]) (by kernel_rfl) (by simp) ?_
  refine AllReadyH.cons (o := _) rfl (fun K hK => ?_) AllReadyH.nil
  go_simp
  have hw3 : w.heap.size ≤ w.heap.size + 1 + 1 := by omega
  refine hK.out _ _ (((hH2.put hw3 0 _).put hw3 1 _).put hw3 2 _) (fun hH3 => ?_)
  clear hK K
  obtain ⟨p0, p1, p2⟩ := put3 c0 c1 c2 (.string nm) (.slice uo1 (normI (we ++ we2)).length uc1) (.slice uo2 (normI (ho ++ ho2)).length uc2)
  have I1 := ((J1.put ⟨w.heap.size + 1 + 1, 0, none⟩ (.string nm) (fun a h _ => by have := hb1 a h; show a.block ≠ w.heap.size + 1 + 1; omega)).put ⟨w.heap.size + 1 + 1, 1, none⟩ (.slice uo1 (normI (we ++ we2)).length uc1) (fun a h _ => by have := hb1 a h; show a.block ≠ w.heap.size + 1 + 1; omega)).put ⟨w.heap.size + 1 + 1, 2, none⟩ (.slice uo2 (normI (ho ++ ho2)).length uc2) (fun a h _ => by have := hb1 a h; show a.block ≠ w.heap.size + 1 + 1; omega)
  have I2 := ((hI2.put ⟨w.heap.size + 1 + 1, 0, none⟩ (.string nm) (fun a h _ => by have := hb2 a h; show a.block ≠ w.heap.size + 1 + 1; omega)).put ⟨w.heap.size + 1 + 1, 1, none⟩ (.slice uo1 (normI (we ++ we2)).length uc1) (fun a h _ => by have := hb2 a h; show a.block ≠ w.heap.size + 1 + 1; omega)).put ⟨w.heap.size + 1 + 1, 2, none⟩ (.slice uo2 (normI (ho ++ ho2)).length uc2) (fun a h _ => by have := hb2 a h; show a.block ≠ w.heap.size + 1 + 1; omega)
  have HB3 := hH3.2.2.2.2.2
  clear hH2 hH3 J1 hI1 hI2 hk1 hk2 c0 c1 c2 f0 f1 f2 U1 U2 HA HB
  refine wpAnyH_done (by kernel_rfl) ?_ _
  go_wp2_with fail
  refine bodyPost_ret (v := .agg #[.string nm, .slice uo1 (normI (we ++ we2)).length uc1, .slice uo2 (normI (ho ++ ho2)).length uc2]) (by simp [results, Tryd.results31, go_sem, p0, p1, p2]) rfl ⟨uo1, uc1, uo2, uc2, rfl, I1, I2, HB3⟩
end Go.Proofs.YtgljaopnehdgdaaDoor
