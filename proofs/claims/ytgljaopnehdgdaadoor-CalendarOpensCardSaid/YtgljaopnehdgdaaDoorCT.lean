/-
  The walks of the laws CalendarOpens and CalendarTallies.
-/
import Derived.Test.YtgljaopnehdgdaaDoorCS
import Derived.Deep.RegionHeld3
namespace Go.Proofs.YtgljaopnehdgdaaDoor
open Go Go.RowKit Go.Lib WM

/-- The calendar in its block, and nothing else has changed. -/
def KS (b : Nat) (x y z : Value) (w : World) (W : World) : Prop := Box3 b x y z W ∧ Below w.heap.size w W
theorem KS.keep {b : Nat} {x y z : Value} {w W W1 : World} (h : KS b x y z w W) (hk : Below W.heap.size W W1) : KS b x y z w W1 := ⟨h.1.keep hk, btr h.2 hk⟩
/-- Two blocks. -/
def KS2 (b : Nat) (x y z : Value) (b' : Nat) (x' y' z' : Value) (w : World) (W : World) : Prop := Box3 b x y z W ∧ Box3 b' x' y' z' W ∧ Below w.heap.size w W
theorem KS2.keep {b : Nat} {x y z : Value} {b' : Nat} {x' y' z' : Value} {w W W1 : World} (h : KS2 b x y z b' x' y' z' w W) (hk : Below W.heap.size W W1) : KS2 b x y z b' x' y' z' w W1 := ⟨h.1.keep hk, h.2.1.keep hk, btr h.2.2 hk⟩

set_option maxRecDepth 100000 in
set_option maxHeartbeats 4000000 in
theorem wCalendarOpens (nm : ByteArray) (wo hp : Option Addr) (wc hc : Nat) (we ho : List Int) (day : Int) (w : World) (hL : Ln w) (hw : IntsAt wo we w) (hh : IntsAt hp ho w) :
    Calls Tryd.prog 5 #[.agg #[.string nm, .slice wo we.length wc, .slice hp ho.length hc], .int .i64 day] w fun e w' => e = .returned (.bool true) ∧ Below w.heap.size w w' := by
  have CF := fun W => mfew nm wo hp wc hc we ho W
  have HL := Lib.hid hL
  cases hf : fewB we ho
  · rw [hf] at CF
    have CF := Lib.hid CF
    clear hf hL hw hh
    go_enter Tryd.func5, Tryd.ntmps5
    go_wp2_with fail
    refine (CF.out _).mono ?_
    rintro e w1 ⟨rfl, q1⟩
    have Z1 := Lib.hid (btr (bal (bref _) _) q1)
    clear q1
    go_wp2_with fail
    refine (live_any _ (HL.out.keep Z1.out)).mono ?_
    rintro e w2 ⟨rfl, q2⟩
    have Z2 := Lib.hid (btr Z1.out q2)
    clear q2
    go_wp2_with fail
    go_ret
    exact ⟨rfl, Z2.out⟩
  · have hcal := few_cal hf hw hh
    rw [hf] at CF
    have CF := Lib.hid CF
    have HC := Lib.hid hcal
    have HX := Lib.hid (box_new nm wo hp wc hc we ho w)
    have C1 := fun W k => mNext nm wo hp wc hc we ho day W k
    have C2 := fun W k => rNext nm wo hp wc hc we ho day W k
    have C3 := fun W k => mPrev nm wo hp wc hc we ho day W k
    have C4 := fun W k => rPrev nm wo hp wc hc we ho day W k
    have C5 := fun W k => mOpen nm wo hp wc hc we ho day W k
    have C6 := fun W k => rOpen nm wo hp wc hc we ho day W k
    obtain ⟨NV, hNV⟩ : ∃ NV, nxV we ho day = NV := ⟨_, rfl⟩
    obtain ⟨NE, hNE⟩ : ∃ NE, nxE we ho day = NE := ⟨_, rfl⟩
    obtain ⟨PV, hPV⟩ : ∃ PV, pvV we ho day = PV := ⟨_, rfl⟩
    obtain ⟨PE, hPE⟩ : ∃ PE, pvE we ho day = PE := ⟨_, rfl⟩
    obtain ⟨O, hO⟩ : ∃ O, opB we ho day = O := ⟨_, rfl⟩
    simp only [hNV, hNE] at C1 C2
    simp only [hPV, hPE] at C3 C4
    simp only [hO] at C5 C6
    have C1 := Lib.hid C1
    have C2 := Lib.hid C2
    have C3 := Lib.hid C3
    have C4 := Lib.hid C4
    have C5 := Lib.hid C5
    have C6 := Lib.hid C6
    clear hf hL hw hh hcal hNV hNE hPV hPE hO
    go_enter Tryd.func5, Tryd.ntmps5
    go_wp2_with fail
    refine (CF.out _).mono ?_
    rintro e w1 ⟨rfl, q1⟩
    have X1 := HX.out.keep q1
    have Z1 := Lib.hid (btr (bal (bref _) _) q1)
    clear q1 HX
    have HX := Lib.hid X1
    obtain ⟨x0, x1, x2⟩ := X1
    go_wp2_with fail
    refine (C1.out _ (HC.out.keep Z1.out)).mono ?_
    rintro e w2 ⟨rfl, q⟩
    have Z2 := Lib.hid (btr Z1.out q)
    have X1 := HX.out.keep q
    clear q Z1 HX x0 x1 x2
    have HX := Lib.hid X1
    obtain ⟨x0, x1, x2⟩ := X1
    go_wp2_with fail
    refine (C2.out _ (HC.out.keep Z2.out)).mono ?_
    rintro e w3 ⟨rfl, q⟩
    have Z3 := Lib.hid (btr Z2.out q)
    have X1 := HX.out.keep q
    clear q Z2 HX x0 x1 x2
    have HX := Lib.hid X1
    obtain ⟨x0, x1, x2⟩ := X1
    go_wp2_with fail
    refine (C3.out _ (HC.out.keep Z3.out)).mono ?_
    rintro e w4 ⟨rfl, q⟩
    have Z4 := Lib.hid (btr Z3.out q)
    have X1 := HX.out.keep q
    clear q Z3 HX x0 x1 x2
    have HX := Lib.hid X1
    obtain ⟨x0, x1, x2⟩ := X1
    go_wp2_with fail
    refine (C4.out _ (HC.out.keep Z4.out)).mono ?_
    rintro e w5 ⟨rfl, q⟩
    have Z5 := Lib.hid (btr Z4.out q)
    have X1 := HX.out.keep q
    clear q Z4 HX x0 x1 x2
    have HX := Lib.hid X1
    obtain ⟨x0, x1, x2⟩ := X1
    go_wp2_with fail
    clear x0 x1 x2
    refine wp_region_held_drew (S := KS w.heap.size (.string nm) (.slice wo we.length wc) (.slice hp ho.length hc) w) (by kernel_rfl) ⟨HX.out.keep (bdn (bref _) 1), bdn Z5.out 1⟩ (fun hH0 => ?_)
    refine wpAnyH_take (i := 0) (oi := _) (v := ?_) rfl (by kernel_rfl) (by kernel_rfl) (by kernel_rfl) (fun _ _ _ h => h) (Or.inl ⟨?_, ?_⟩) hH0 ?_
    rotate_left
    · kernel_rfl
    · (intro W' hSw; obtain ⟨⟨s0, s1, s2⟩, s5⟩ := hSw; go_simp; (try with_reducible rfl))
    (try simp only [List.getElem_toArray])
    (try simp only [List.getElem_cons_succ])
    (try simp only [List.getElem_cons_zero])
    (try simp only [Act.put])
    (try simp only [List.setIfInBounds_toArray])
    (try simp only [List.set_cons_succ])
    (try simp only [List.set_cons_zero])
    refine wpAnyH_take (i := 1) (oi := _) (v := ?_) rfl (by kernel_rfl) (by kernel_rfl) (by kernel_rfl) (fun _ _ _ h => h) (Or.inl ⟨?_, ?_⟩) hH0 ?_
    rotate_left
    · kernel_rfl
    · (intro W' hSw; obtain ⟨⟨s0, s1, s2⟩, s5⟩ := hSw; go_simp; (try with_reducible rfl))
    (try simp only [List.getElem_toArray])
    (try simp only [List.getElem_cons_succ])
    (try simp only [List.getElem_cons_zero])
    (try simp only [Act.put])
    (try simp only [List.setIfInBounds_toArray])
    (try simp only [List.set_cons_succ])
    (try simp only [List.set_cons_zero])
    refine wpAnyH_take (i := 3) (oi := _) (v := ?_) rfl (by kernel_rfl) (by kernel_rfl) (by kernel_rfl) (fun _ _ _ h => h) (Or.inl ⟨?_, ?_⟩) hH0 ?_
    rotate_left
    · kernel_rfl
    · (intro W' hSw; obtain ⟨⟨s0, s1, s2⟩, s5⟩ := hSw; go_simp; (try with_reducible rfl))
    (try simp only [List.getElem_toArray])
    (try simp only [List.getElem_cons_succ])
    (try simp only [List.getElem_cons_zero])
    (try simp only [Act.put])
    (try simp only [List.setIfInBounds_toArray])
    (try simp only [List.set_cons_succ])
    (try simp only [List.set_cons_zero])
    refine wpAnyH_take (i := 4) (oi := _) (v := ?_) rfl (by kernel_rfl) (by kernel_rfl) (by kernel_rfl) (fun _ _ _ h => h) (Or.inl ⟨?_, ?_⟩) hH0 ?_
    rotate_left
    · kernel_rfl
    · (intro W' hSw; obtain ⟨⟨s0, s1, s2⟩, s5⟩ := hSw; go_simp; (try with_reducible rfl))
    (try simp only [List.getElem_toArray])
    (try simp only [List.getElem_cons_succ])
    (try simp only [List.getElem_cons_zero])
    (try simp only [Act.put])
    (try simp only [List.setIfInBounds_toArray])
    (try simp only [List.set_cons_succ])
    (try simp only [List.set_cons_zero])
    refine wpAnyH_ready (rs := [2]) (by kernel_rfl) (by simp) ?_
    refine AllReadyH.cons (o := _) rfl (fun K hK => ?_) AllReadyH.nil
    go_simp
    refine (C5.out _ (HC.out.keep hH0.2)).mono ?_
    rintro e W6 ⟨rfl, hk⟩
    refine hK.out _ _ (hH0.keep hk) (fun hH1 => ?_)
    clear hK K
    (try simp only [List.getElem_toArray])
    (try simp only [List.getElem_cons_succ])
    (try simp only [List.getElem_cons_zero])
    (try simp only [Act.put])
    (try simp only [List.setIfInBounds_toArray])
    (try simp only [List.set_cons_succ])
    (try simp only [List.set_cons_zero])
    refine wpAnyH_ready (rs := [5]) (by kernel_rfl) (by simp) ?_
    refine AllReadyH.cons (o := _) rfl (fun K hK => ?_) AllReadyH.nil
    go_simp
    refine (C6.out _ (HC.out.keep hH1.2)).mono ?_
    rintro e W7 ⟨rfl, hk2⟩
    refine hK.out _ _ (hH1.keep hk2) (fun hH2 => ?_)
    clear hK K
    (try simp only [List.getElem_toArray])
    (try simp only [List.getElem_cons_succ])
    (try simp only [List.getElem_cons_zero])
    (try simp only [Act.put])
    (try simp only [List.setIfInBounds_toArray])
    (try simp only [List.set_cons_succ])
    (try simp only [List.set_cons_zero])
    refine wpAnyH_take (i := 6) (oi := _) (v := ?_) rfl (by kernel_rfl) (by kernel_rfl) (by kernel_rfl) (fun _ _ _ h => h) (Or.inl ⟨?_, ?_⟩) hH2 ?_
    rotate_left
    · kernel_rfl
    · (intro W' hSw; obtain ⟨⟨s0, s1, s2⟩, s5⟩ := hSw; go_simp; (try with_reducible rfl))
    (try simp only [List.getElem_toArray])
    (try simp only [List.getElem_cons_succ])
    (try simp only [List.getElem_cons_zero])
    (try simp only [Act.put])
    (try simp only [List.setIfInBounds_toArray])
    (try simp only [List.set_cons_succ])
    (try simp only [List.set_cons_zero])
    refine wpAnyH_take (i := 7) (oi := _) (v := ?_) rfl (by kernel_rfl) (by kernel_rfl) (by kernel_rfl) (fun _ _ _ h => h) (Or.inl ⟨?_, ?_⟩) hH2 ?_
    rotate_left
    · kernel_rfl
    · (intro W' hSw; obtain ⟨⟨s0, s1, s2⟩, s5⟩ := hSw; go_simp; (try with_reducible rfl))
    (try simp only [List.getElem_toArray])
    (try simp only [List.getElem_cons_succ])
    (try simp only [List.getElem_cons_zero])
    (try simp only [Act.put])
    (try simp only [List.setIfInBounds_toArray])
    (try simp only [List.set_cons_succ])
    (try simp only [List.set_cons_zero])
    refine wpAnyH_take (i := 8) (oi := _) (v := ?_) rfl (by kernel_rfl) (by kernel_rfl) (by kernel_rfl) (fun _ _ _ h => h) (Or.inl ⟨?_, ?_⟩) hH2 ?_
    rotate_left
    · kernel_rfl
    · (intro W' hSw; obtain ⟨⟨s0, s1, s2⟩, s5⟩ := hSw; go_simp; (try with_reducible rfl))
    (try simp only [List.getElem_toArray])
    (try simp only [List.getElem_cons_succ])
    (try simp only [List.getElem_cons_zero])
    (try simp only [Act.put])
    (try simp only [List.setIfInBounds_toArray])
    (try simp only [List.set_cons_succ])
    (try simp only [List.set_cons_zero])
    refine wpAnyH_take (i := 9) (oi := _) (v := ?_) rfl (by kernel_rfl) (by kernel_rfl) (by kernel_rfl) (fun _ _ _ h => h) (Or.inl ⟨?_, ?_⟩) hH2 ?_
    rotate_left
    · kernel_rfl
    · (intro W' hSw; obtain ⟨⟨s0, s1, s2⟩, s5⟩ := hSw; go_simp; (try with_reducible rfl))
    (try simp only [List.getElem_toArray])
    (try simp only [List.getElem_cons_succ])
    (try simp only [List.getElem_cons_zero])
    (try simp only [Act.put])
    (try simp only [List.setIfInBounds_toArray])
    (try simp only [List.set_cons_succ])
    (try simp only [List.set_cons_zero])
    refine wpAnyH_take (i := 10) (oi := _) (v := ?_) rfl (by kernel_rfl) (by kernel_rfl) (by kernel_rfl) (fun _ _ _ h => h) (Or.inl ⟨?_, ?_⟩) hH2 ?_
    rotate_left
    · kernel_rfl
    · (intro W' hSw; obtain ⟨⟨s0, s1, s2⟩, s5⟩ := hSw; go_simp; (try with_reducible rfl))
    (try simp only [List.getElem_toArray])
    (try simp only [List.getElem_cons_succ])
    (try simp only [List.getElem_cons_zero])
    (try simp only [Act.put])
    (try simp only [List.setIfInBounds_toArray])
    (try simp only [List.set_cons_succ])
    (try simp only [List.set_cons_zero])
    refine wpAnyH_take (i := 11) (oi := _) (v := ?_) rfl (by kernel_rfl) (by kernel_rfl) (by kernel_rfl) (fun _ _ _ h => h) (Or.inl ⟨?_, ?_⟩) hH2 ?_
    rotate_left
    · kernel_rfl
    · (intro W' hSw; obtain ⟨⟨s0, s1, s2⟩, s5⟩ := hSw; go_simp; (try with_reducible rfl))
    (try simp only [List.getElem_toArray])
    (try simp only [List.getElem_cons_succ])
    (try simp only [List.getElem_cons_zero])
    (try simp only [Act.put])
    (try simp only [List.setIfInBounds_toArray])
    (try simp only [List.set_cons_succ])
    (try simp only [List.set_cons_zero])
    refine wpAnyH_take (i := 12) (oi := _) (v := ?_) rfl (by kernel_rfl) (by kernel_rfl) (by kernel_rfl) (fun _ _ _ h => h) (Or.inl ⟨?_, ?_⟩) hH2 ?_
    rotate_left
    · kernel_rfl
    · (intro W' hSw; obtain ⟨⟨s0, s1, s2⟩, s5⟩ := hSw; go_simp; (try with_reducible rfl))
    (try simp only [List.getElem_toArray])
    (try simp only [List.getElem_cons_succ])
    (try simp only [List.getElem_cons_zero])
    (try simp only [Act.put])
    (try simp only [List.setIfInBounds_toArray])
    (try simp only [List.set_cons_succ])
    (try simp only [List.set_cons_zero])
    refine wpAnyH_take (i := 13) (oi := _) (v := ?_) rfl (by kernel_rfl) (by kernel_rfl) (by kernel_rfl) (fun _ _ _ h => h) (Or.inl ⟨?_, ?_⟩) hH2 ?_
    rotate_left
    · kernel_rfl
    · (intro W' hSw; obtain ⟨⟨s0, s1, s2⟩, s5⟩ := hSw; go_simp; (try with_reducible rfl))
    (try simp only [List.getElem_toArray])
    (try simp only [List.getElem_cons_succ])
    (try simp only [List.getElem_cons_zero])
    (try simp only [Act.put])
    (try simp only [List.setIfInBounds_toArray])
    (try simp only [List.set_cons_succ])
    (try simp only [List.set_cons_zero])
    refine wpAnyH_take (i := 14) (oi := _) (v := ?_) rfl (by kernel_rfl) (by kernel_rfl) (by kernel_rfl) (fun _ _ _ h => h) (Or.inl ⟨?_, ?_⟩) hH2 ?_
    rotate_left
    · kernel_rfl
    · (intro W' hSw; obtain ⟨⟨s0, s1, s2⟩, s5⟩ := hSw; go_simp; (try with_reducible rfl))
    (try simp only [List.getElem_toArray])
    (try simp only [List.getElem_cons_succ])
    (try simp only [List.getElem_cons_zero])
    (try simp only [Act.put])
    (try simp only [List.setIfInBounds_toArray])
    (try simp only [List.set_cons_succ])
    (try simp only [List.set_cons_zero])
    refine wpAnyH_take (i := 15) (oi := _) (v := ?_) rfl (by kernel_rfl) (by kernel_rfl) (by kernel_rfl) (fun _ _ _ h => h) (Or.inl ⟨?_, ?_⟩) hH2 ?_
    rotate_left
    · kernel_rfl
    · (intro W' hSw; obtain ⟨⟨s0, s1, s2⟩, s5⟩ := hSw; go_simp; (try with_reducible rfl))
    (try simp only [List.getElem_toArray])
    (try simp only [List.getElem_cons_succ])
    (try simp only [List.getElem_cons_zero])
    (try simp only [Act.put])
    (try simp only [List.setIfInBounds_toArray])
    (try simp only [List.set_cons_succ])
    (try simp only [List.set_cons_zero])
    refine wpAnyH_take (i := 16) (oi := _) (v := ?_) rfl (by kernel_rfl) (by kernel_rfl) (by kernel_rfl) (fun _ _ _ h => h) (Or.inl ⟨?_, ?_⟩) hH2 ?_
    rotate_left
    · kernel_rfl
    · (intro W' hSw; obtain ⟨⟨s0, s1, s2⟩, s5⟩ := hSw; go_simp; (try with_reducible rfl))
    (try simp only [List.getElem_toArray])
    (try simp only [List.getElem_cons_succ])
    (try simp only [List.getElem_cons_zero])
    (try simp only [Act.put])
    (try simp only [List.setIfInBounds_toArray])
    (try simp only [List.set_cons_succ])
    (try simp only [List.set_cons_zero])
    refine wpAnyH_take (i := 17) (oi := _) (v := ?_) rfl (by kernel_rfl) (by kernel_rfl) (by kernel_rfl) (fun _ _ _ h => h) (Or.inl ⟨?_, ?_⟩) hH2 ?_
    rotate_left
    · kernel_rfl
    · (intro W' hSw; obtain ⟨⟨s0, s1, s2⟩, s5⟩ := hSw; go_simp; (try with_reducible rfl))
    (try simp only [List.getElem_toArray])
    (try simp only [List.getElem_cons_succ])
    (try simp only [List.getElem_cons_zero])
    (try simp only [Act.put])
    (try simp only [List.setIfInBounds_toArray])
    (try simp only [List.set_cons_succ])
    (try simp only [List.set_cons_zero])
    refine wpAnyH_take (i := 18) (oi := _) (v := ?_) rfl (by kernel_rfl) (by kernel_rfl) (by kernel_rfl) (fun _ _ _ h => h) (Or.inl ⟨?_, ?_⟩) hH2 ?_
    rotate_left
    · kernel_rfl
    · (intro W' hSw; obtain ⟨⟨s0, s1, s2⟩, s5⟩ := hSw; go_simp; (try with_reducible rfl))
    (try simp only [List.getElem_toArray])
    (try simp only [List.getElem_cons_succ])
    (try simp only [List.getElem_cons_zero])
    (try simp only [Act.put])
    (try simp only [List.setIfInBounds_toArray])
    (try simp only [List.set_cons_succ])
    (try simp only [List.set_cons_zero])
    refine wpAnyH_take (i := 19) (oi := _) (v := ?_) rfl (by kernel_rfl) (by kernel_rfl) (by kernel_rfl) (fun _ _ _ h => h) (Or.inl ⟨?_, ?_⟩) hH2 ?_
    rotate_left
    · kernel_rfl
    · (intro W' hSw; obtain ⟨⟨s0, s1, s2⟩, s5⟩ := hSw; go_simp; (try with_reducible rfl))
    (try simp only [List.getElem_toArray])
    (try simp only [List.getElem_cons_succ])
    (try simp only [List.getElem_cons_zero])
    (try simp only [Act.put])
    (try simp only [List.setIfInBounds_toArray])
    (try simp only [List.set_cons_succ])
    (try simp only [List.set_cons_zero])
    refine wpAnyH_take (i := 20) (oi := _) (v := ?_) rfl (by kernel_rfl) (by kernel_rfl) (by kernel_rfl) (fun _ _ _ h => h) (Or.inl ⟨?_, ?_⟩) hH2 ?_
    rotate_left
    · kernel_rfl
    · (intro W' hSw; obtain ⟨⟨s0, s1, s2⟩, s5⟩ := hSw; go_simp; (try with_reducible rfl))
    (try simp only [List.getElem_toArray])
    (try simp only [List.getElem_cons_succ])
    (try simp only [List.getElem_cons_zero])
    (try simp only [Act.put])
    (try simp only [List.setIfInBounds_toArray])
    (try simp only [List.set_cons_succ])
    (try simp only [List.set_cons_zero])
    refine wpAnyH_take (i := 21) (oi := _) (v := ?_) rfl (by kernel_rfl) (by kernel_rfl) (by kernel_rfl) (fun _ _ _ h => h) (Or.inl ⟨?_, ?_⟩) hH2 ?_
    rotate_left
    · kernel_rfl
    · (intro W' hSw; obtain ⟨⟨s0, s1, s2⟩, s5⟩ := hSw; go_simp; (try with_reducible rfl))
    (try simp only [List.getElem_toArray])
    (try simp only [List.getElem_cons_succ])
    (try simp only [List.getElem_cons_zero])
    (try simp only [Act.put])
    (try simp only [List.setIfInBounds_toArray])
    (try simp only [List.set_cons_succ])
    (try simp only [List.set_cons_zero])
    refine wpAnyH_take (i := 22) (oi := _) (v := ?_) rfl (by kernel_rfl) (by kernel_rfl) (by kernel_rfl) (fun _ _ _ h => h) (Or.inl ⟨?_, ?_⟩) hH2 ?_
    rotate_left
    · kernel_rfl
    · (intro W' hSw; obtain ⟨⟨s0, s1, s2⟩, s5⟩ := hSw; go_simp; (try with_reducible rfl))
    (try simp only [List.getElem_toArray])
    (try simp only [List.getElem_cons_succ])
    (try simp only [List.getElem_cons_zero])
    (try simp only [Act.put])
    (try simp only [List.setIfInBounds_toArray])
    (try simp only [List.set_cons_succ])
    (try simp only [List.set_cons_zero])
    refine wpAnyH_take (i := 23) (oi := _) (v := ?_) rfl (by kernel_rfl) (by kernel_rfl) (by kernel_rfl) (fun _ _ _ h => h) (Or.inl ⟨?_, ?_⟩) hH2 ?_
    rotate_left
    · kernel_rfl
    · (intro W' hSw; obtain ⟨⟨s0, s1, s2⟩, s5⟩ := hSw; go_simp; (try with_reducible rfl))
    (try simp only [List.getElem_toArray])
    (try simp only [List.getElem_cons_succ])
    (try simp only [List.getElem_cons_zero])
    (try simp only [Act.put])
    (try simp only [List.setIfInBounds_toArray])
    (try simp only [List.set_cons_succ])
    (try simp only [List.set_cons_zero])
    refine wpAnyH_take (i := 24) (oi := _) (v := ?_) rfl (by kernel_rfl) (by kernel_rfl) (by kernel_rfl) (fun _ _ _ h => h) (Or.inl ⟨?_, ?_⟩) hH2 ?_
    rotate_left
    · kernel_rfl
    · (intro W' hSw; obtain ⟨⟨s0, s1, s2⟩, s5⟩ := hSw; go_simp; (try with_reducible rfl))
    (try simp only [List.getElem_toArray])
    (try simp only [List.getElem_cons_succ])
    (try simp only [List.getElem_cons_zero])
    (try simp only [Act.put])
    (try simp only [List.setIfInBounds_toArray])
    (try simp only [List.set_cons_succ])
    (try simp only [List.set_cons_zero])
    refine wpAnyH_take (i := 25) (oi := _) (v := ?_) rfl (by kernel_rfl) (by kernel_rfl) (by kernel_rfl) (fun _ _ _ h => h) (Or.inl ⟨?_, ?_⟩) hH2 ?_
    rotate_left
    · kernel_rfl
    · (intro W' hSw; obtain ⟨⟨s0, s1, s2⟩, s5⟩ := hSw; go_simp; (try with_reducible rfl))
    (try simp only [List.getElem_toArray])
    (try simp only [List.getElem_cons_succ])
    (try simp only [List.getElem_cons_zero])
    (try simp only [Act.put])
    (try simp only [List.setIfInBounds_toArray])
    (try simp only [List.set_cons_succ])
    (try simp only [List.set_cons_zero])
    refine wpAnyH_take (i := 26) (oi := _) (v := ?_) rfl (by kernel_rfl) (by kernel_rfl) (by kernel_rfl) (fun _ _ _ h => h) (Or.inl ⟨?_, ?_⟩) hH2 ?_
    rotate_left
    · kernel_rfl
    · (intro W' hSw; obtain ⟨⟨s0, s1, s2⟩, s5⟩ := hSw; go_simp; (try with_reducible rfl))
    (try simp only [List.getElem_toArray])
    (try simp only [List.getElem_cons_succ])
    (try simp only [List.getElem_cons_zero])
    (try simp only [Act.put])
    (try simp only [List.setIfInBounds_toArray])
    (try simp only [List.set_cons_succ])
    (try simp only [List.set_cons_zero])
    refine wpAnyH_take (i := 27) (oi := _) (v := ?_) rfl (by kernel_rfl) (by kernel_rfl) (by kernel_rfl) (fun _ _ _ h => h) (Or.inl ⟨?_, ?_⟩) hH2 ?_
    rotate_left
    · kernel_rfl
    · (intro W' hSw; obtain ⟨⟨s0, s1, s2⟩, s5⟩ := hSw; go_simp; (try with_reducible rfl))
    (try simp only [List.getElem_toArray])
    (try simp only [List.getElem_cons_succ])
    (try simp only [List.getElem_cons_zero])
    (try simp only [Act.put])
    (try simp only [List.setIfInBounds_toArray])
    (try simp only [List.set_cons_succ])
    (try simp only [List.set_cons_zero])
    refine wpAnyH_ready (rs := [28]) (by kernel_rfl) (by simp) ?_
    refine AllReadyH.cons (o := _) rfl (fun K hK => ?_) AllReadyH.nil
    go_simp
    refine (live_any _ (HL.out.keep hH2.2)).mono ?_
    rintro e W8 ⟨rfl, hk3⟩
    refine hK.out _ _ (hH2.keep hk3) (fun hH3 => ?_)
    clear hK K
    (try simp only [List.getElem_toArray])
    (try simp only [List.getElem_cons_succ])
    (try simp only [List.getElem_cons_zero])
    (try simp only [Act.put])
    (try simp only [List.setIfInBounds_toArray])
    (try simp only [List.set_cons_succ])
    (try simp only [List.set_cons_zero])
    refine wpAnyH_take (i := 29) (oi := _) (v := ?_) rfl (by kernel_rfl) (by kernel_rfl) (by kernel_rfl) (fun _ _ _ h => h) (Or.inl ⟨?_, ?_⟩) hH3 ?_
    rotate_left
    · kernel_rfl
    · (intro W' hSw; obtain ⟨⟨s0, s1, s2⟩, s5⟩ := hSw; go_simp; (try with_reducible rfl))
    (try simp only [List.getElem_toArray])
    (try simp only [List.getElem_cons_succ])
    (try simp only [List.getElem_cons_zero])
    (try simp only [Act.put])
    (try simp only [List.setIfInBounds_toArray])
    (try simp only [List.set_cons_succ])
    (try simp only [List.set_cons_zero])
    refine wpAnyH_take (i := 30) (oi := _) (v := ?_) rfl (by kernel_rfl) (by kernel_rfl) (by kernel_rfl) (fun _ _ _ h => h) (Or.inl ⟨?_, ?_⟩) hH3 ?_
    rotate_left
    · kernel_rfl
    · (intro W' hSw; obtain ⟨⟨s0, s1, s2⟩, s5⟩ := hSw; go_simp; (try with_reducible rfl))
    (try simp only [List.getElem_toArray])
    (try simp only [List.getElem_cons_succ])
    (try simp only [List.getElem_cons_zero])
    (try simp only [Act.put])
    (try simp only [List.setIfInBounds_toArray])
    (try simp only [List.set_cons_succ])
    (try simp only [List.set_cons_zero])
    refine wpAnyH_done (by kernel_rfl) ?_ _
    have ZZ := hH3.2
    clear hk hk2 hk3 hH0 hH1 hH2 hH3
    go_wp2_with fail
    go_ret
    exact ⟨by first | rfl | simp, ZZ⟩

set_option maxRecDepth 100000 in
set_option maxHeartbeats 4000000 in
theorem wCalendarTallies (nm : ByteArray) (wo hp : Option Addr) (wc hc : Nat) (we ho : List Int) (sx sy sz : Int) (w : World) (hL : Ln w) (hw : IntsAt wo we w) (hh : IntsAt hp ho w) :
    Calls Tryd.prog 8 #[.agg #[.string nm, .slice wo we.length wc, .slice hp ho.length hc], .agg #[.int .i64 sx, .int .i64 sy, .int .i64 sz]] w fun e w' => e = .returned (.bool true) ∧ Below w.heap.size w w' := by
  have CF := fun W => mfew nm wo hp wc hc we ho W
  have HL := Lib.hid hL
  cases hf : fewB we ho
  · rw [hf] at CF
    have CF := Lib.hid CF
    clear hf hL hw hh
    go_enter Tryd.func8, Tryd.ntmps8
    go_wp2_with fail
    refine (CF.out _).mono ?_
    rintro e w1 ⟨rfl, q1⟩
    have Z1 := Lib.hid (btr (bal (bal (bref _) _) _) q1)
    clear q1
    go_wp2_with fail
    refine (live_any _ (HL.out.keep Z1.out)).mono ?_
    rintro e w2 ⟨rfl, q2⟩
    have Z2 := Lib.hid (btr Z1.out q2)
    clear q2
    go_wp2_with fail
    go_ret
    exact ⟨rfl, Z2.out⟩
  · have hcal := few_cal hf hw hh
    rw [hf] at CF
    have CF := Lib.hid CF
    have HC := Lib.hid hcal
    have HX := Lib.hid ((box_new nm wo hp wc hc we ho w).keep (bal (bref _) (.cells #[.int .i64 sx, .int .i64 sy, .int .i64 sz] 40)))
    have HY : Hid (Box3 (w.heap.size + 1) (.int .i64 sx) (.int .i64 sy) (.int .i64 sz) ((w.alloc (.cells #[.string nm, .slice wo we.length wc, .slice hp ho.length hc] 24)).alloc (.cells #[.int .i64 sx, .int .i64 sy, .int .i64 sz] 40))) := Lib.hid (by refine ⟨?_, ?_, ?_⟩ <;> simp [go_sem])
    have C1 := fun W k => mCount nm wo hp wc hc we ho sx sz W k
    have C2 := fun W k => rCount nm wo hp wc hc we ho sx sz W k
    have C3 := fun W k => mCount nm wo hp wc hc we ho sx sy W k
    have C4 := fun W k => mCount nm wo hp wc hc we ho sy sz W k
    have a1 := cnt_bd (dOpen we ho) sx sy
    have a2 := cnt_bd (dOpen we ho) sy sz
    have a3 : sx ≤ sy → sy ≤ sz → _ := fun u v => cnt_add (dOpen we ho) sx sy sz u v
    obtain ⟨KK, hK⟩ : ∃ KK, cntI (dOpen we ho) sx sz = KK := ⟨_, rfl⟩
    obtain ⟨K1, hK1⟩ : ∃ K1, cntI (dOpen we ho) sx sy = K1 := ⟨_, rfl⟩
    obtain ⟨K2, hK2⟩ : ∃ K2, cntI (dOpen we ho) sy sz = K2 := ⟨_, rfl⟩
    simp only [hK] at C1 C2
    simp only [hK1] at C3
    simp only [hK2] at C4
    have a0 := cnt_bd (dOpen we ho) sx sz
    rw [hK] at a0
    have hwr : IntKind.i64.wrap KK = KK := by rw [IntKind.wrap_i64]; omega
    clear a0
    rw [hK1] at a1
    rw [hK2] at a2
    rw [hK, hK1, hK2] at a3
    obtain ⟨u1, u2⟩ := a1
    obtain ⟨u3, u4⟩ := a2
    have C1 := Lib.hid C1
    have C2 := Lib.hid C2
    have C3 := Lib.hid C3
    have C4 := Lib.hid C4
    clear hf hL hw hh hcal hK hK1 hK2
    go_enter Tryd.func8, Tryd.ntmps8
    go_wp2_with fail
    refine (CF.out _).mono ?_
    rintro e w1 ⟨rfl, q1⟩
    have X1 := HX.out.keep q1
    have Y1 := HY.out.keep q1
    have Z1 := Lib.hid (btr (bal (bal (bref _) _) _) q1)
    clear q1 HX HY
    have HX := Lib.hid X1
    have HY := Lib.hid Y1
    obtain ⟨x0, x1, x2⟩ := X1
    obtain ⟨y0, y1, y2⟩ := Y1
    go_wp2_with fail
    refine (C1.out _ (HC.out.keep Z1.out)).mono ?_
    rintro e w2 ⟨rfl, q⟩
    have Z2 := Lib.hid (btr Z1.out q)
    have X1 := HX.out.keep q
    have Y1 := HY.out.keep q
    clear q Z1 HX HY x0 x1 x2 y0 y1 y2
    have HX := Lib.hid X1
    have HY := Lib.hid Y1
    obtain ⟨x0, x1, x2⟩ := X1
    obtain ⟨y0, y1, y2⟩ := Y1
    go_wp2_with fail
    refine (C2.out _ (HC.out.keep Z2.out)).mono ?_
    rintro e w3 ⟨rfl, q⟩
    have Z3 := Lib.hid (btr Z2.out q)
    have X1 := HX.out.keep q
    have Y1 := HY.out.keep q
    clear q Z2 HX HY x0 x1 x2 y0 y1 y2
    have HX := Lib.hid X1
    have HY := Lib.hid Y1
    obtain ⟨x0, x1, x2⟩ := X1
    obtain ⟨y0, y1, y2⟩ := Y1
    go_wp2_with fail
    clear x0 x1 x2 y0 y1 y2
    by_cases c1 : sy < sx
    · have d1 : decide (sy < sx) = true := by simpa using c1
      refine wp_region_held_drew (S := KS2 w.heap.size (.string nm) (.slice wo we.length wc) (.slice hp ho.length hc) (w.heap.size + 1) (.int .i64 sx) (.int .i64 sy) (.int .i64 sz) w) (by kernel_rfl) ⟨HX.out.keep (bdn (bref _) 1), HY.out.keep (bdn (bref _) 1), bdn Z3.out 1⟩ (fun hH0 => ?_)
      refine wpAnyH_take (i := 0) (oi := _) (v := ?_) rfl (by kernel_rfl) (by kernel_rfl) (by kernel_rfl) (fun _ _ _ h => h) (Or.inl ⟨?_, ?_⟩) hH0 ?_
      rotate_left
      · kernel_rfl
      · (intro W' hSw; obtain ⟨⟨s0, s1, s2⟩, ⟨r0, r1, r2⟩, s5⟩ := hSw; go_simp; (try with_reducible rfl))
      (try simp only [List.getElem_toArray])
      (try simp only [List.getElem_cons_succ])
      (try simp only [List.getElem_cons_zero])
      (try simp only [Act.put])
      (try simp only [List.setIfInBounds_toArray])
      (try simp only [List.set_cons_succ])
      (try simp only [List.set_cons_zero])
      refine wpAnyH_take (i := 1) (oi := _) (v := ?_) rfl (by kernel_rfl) (by kernel_rfl) (by kernel_rfl) (fun _ _ _ h => h) (Or.inl ⟨?_, ?_⟩) hH0 ?_
      rotate_left
      · kernel_rfl
      · (intro W' hSw; obtain ⟨⟨s0, s1, s2⟩, ⟨r0, r1, r2⟩, s5⟩ := hSw; go_simp; (try with_reducible rfl))
      (try simp only [List.getElem_toArray])
      (try simp only [List.getElem_cons_succ])
      (try simp only [List.getElem_cons_zero])
      (try simp only [Act.put])
      (try simp only [List.setIfInBounds_toArray])
      (try simp only [List.set_cons_succ])
      (try simp only [List.set_cons_zero])
      refine wpAnyH_take (i := 2) (oi := _) (v := ?_) rfl (by kernel_rfl) (by kernel_rfl) (by kernel_rfl) (fun _ _ _ h => h) (Or.inl ⟨?_, ?_⟩) hH0 ?_
      rotate_left
      · kernel_rfl
      · (intro W' hSw; obtain ⟨⟨s0, s1, s2⟩, ⟨r0, r1, r2⟩, s5⟩ := hSw; go_simp; (try with_reducible rfl))
      (try simp only [List.getElem_toArray])
      (try simp only [List.getElem_cons_succ])
      (try simp only [List.getElem_cons_zero])
      (try simp only [Act.put])
      (try simp only [List.setIfInBounds_toArray])
      (try simp only [List.set_cons_succ])
      (try simp only [List.set_cons_zero])
      refine wpAnyH_take (i := 3) (oi := _) (v := ?_) rfl (by kernel_rfl) (by kernel_rfl) (by kernel_rfl) (fun _ _ _ h => h) (Or.inl ⟨?_, ?_⟩) hH0 ?_
      rotate_left
      · kernel_rfl
      · (intro W' hSw; obtain ⟨⟨s0, s1, s2⟩, ⟨r0, r1, r2⟩, s5⟩ := hSw; go_simp; (try with_reducible rfl))
      (try simp only [List.getElem_toArray])
      (try simp only [List.getElem_cons_succ])
      (try simp only [List.getElem_cons_zero])
      (try simp only [Act.put])
      (try simp only [List.setIfInBounds_toArray])
      (try simp only [List.set_cons_succ])
      (try simp only [List.set_cons_zero])
      refine wpAnyH_take (i := 4) (oi := _) (v := ?_) rfl (by kernel_rfl) (by kernel_rfl) (by kernel_rfl) (fun _ _ _ h => h) (Or.inl ⟨?_, ?_⟩) hH0 ?_
      rotate_left
      · kernel_rfl
      · (intro W' hSw; obtain ⟨⟨s0, s1, s2⟩, ⟨r0, r1, r2⟩, s5⟩ := hSw; go_simp; (try with_reducible rfl))
      (try simp only [List.getElem_toArray])
      (try simp only [List.getElem_cons_succ])
      (try simp only [List.getElem_cons_zero])
      (try simp only [Act.put])
      (try simp only [List.setIfInBounds_toArray])
      (try simp only [List.set_cons_succ])
      (try simp only [List.set_cons_zero])
      refine wpAnyH_take (i := 5) (oi := _) (v := ?_) rfl (by kernel_rfl) (by kernel_rfl) (by kernel_rfl) (fun _ _ _ h => h) (Or.inl ⟨?_, ?_⟩) hH0 ?_
      rotate_left
      · kernel_rfl
      · (intro W' hSw; obtain ⟨⟨s0, s1, s2⟩, ⟨r0, r1, r2⟩, s5⟩ := hSw; go_simp; (try with_reducible rfl))
      (try simp only [List.getElem_toArray])
      (try simp only [List.getElem_cons_succ])
      (try simp only [List.getElem_cons_zero])
      (try simp only [Act.put])
      (try simp only [List.setIfInBounds_toArray])
      (try simp only [List.set_cons_succ])
      (try simp only [List.set_cons_zero])
      refine wpAnyH_take (i := 6) (oi := _) (v := undef) rfl (by kernel_rfl) (by kernel_rfl) (by kernel_rfl) (fun _ _ _ h => h) (Or.inr ⟨?_, rfl⟩) hH0 ?_
      · kernel_rfl
      (try simp only [List.getElem_toArray])
      (try simp only [List.getElem_cons_succ])
      (try simp only [List.getElem_cons_zero])
      (try simp only [Act.put])
      (try simp only [List.setIfInBounds_toArray])
      (try simp only [List.set_cons_succ])
      (try simp only [List.set_cons_zero])
      refine wpAnyH_take (i := 7) (oi := _) (v := undef) rfl (by kernel_rfl) (by kernel_rfl) (by kernel_rfl) (fun _ _ _ h => h) (Or.inr ⟨?_, rfl⟩) hH0 ?_
      · kernel_rfl
      (try simp only [List.getElem_toArray])
      (try simp only [List.getElem_cons_succ])
      (try simp only [List.getElem_cons_zero])
      (try simp only [Act.put])
      (try simp only [List.setIfInBounds_toArray])
      (try simp only [List.set_cons_succ])
      (try simp only [List.set_cons_zero])
      refine wpAnyH_take (i := 8) (oi := _) (v := undef) rfl (by kernel_rfl) (by kernel_rfl) (by kernel_rfl) (fun _ _ _ h => h) (Or.inr ⟨?_, rfl⟩) hH0 ?_
      · kernel_rfl
      (try simp only [List.getElem_toArray])
      (try simp only [List.getElem_cons_succ])
      (try simp only [List.getElem_cons_zero])
      (try simp only [Act.put])
      (try simp only [List.setIfInBounds_toArray])
      (try simp only [List.set_cons_succ])
      (try simp only [List.set_cons_zero])
      refine wpAnyH_take (i := 9) (oi := _) (v := undef) rfl (by kernel_rfl) (by kernel_rfl) (by kernel_rfl) (fun _ _ _ h => h) (Or.inr ⟨?_, rfl⟩) hH0 ?_
      · kernel_rfl
      (try simp only [List.getElem_toArray])
      (try simp only [List.getElem_cons_succ])
      (try simp only [List.getElem_cons_zero])
      (try simp only [Act.put])
      (try simp only [List.setIfInBounds_toArray])
      (try simp only [List.set_cons_succ])
      (try simp only [List.set_cons_zero])
      refine wpAnyH_take (i := 10) (oi := _) (v := undef) rfl (by kernel_rfl) (by kernel_rfl) (by kernel_rfl) (fun _ _ _ h => h) (Or.inr ⟨?_, rfl⟩) hH0 ?_
      · kernel_rfl
      (try simp only [List.getElem_toArray])
      (try simp only [List.getElem_cons_succ])
      (try simp only [List.getElem_cons_zero])
      (try simp only [Act.put])
      (try simp only [List.setIfInBounds_toArray])
      (try simp only [List.set_cons_succ])
      (try simp only [List.set_cons_zero])
      refine wpAnyH_take (i := 11) (oi := _) (v := ?_) rfl (by kernel_rfl) (by kernel_rfl) (by kernel_rfl) (fun _ _ _ h => h) (Or.inl ⟨?_, ?_⟩) hH0 ?_
      rotate_left
      · kernel_rfl
      · (intro W' hSw; obtain ⟨⟨s0, s1, s2⟩, ⟨r0, r1, r2⟩, s5⟩ := hSw; go_simp; (try with_reducible rfl))
      (try simp only [List.getElem_toArray])
      (try simp only [List.getElem_cons_succ])
      (try simp only [List.getElem_cons_zero])
      (try simp only [Act.put])
      (try simp only [List.setIfInBounds_toArray])
      (try simp only [List.set_cons_succ])
      (try simp only [List.set_cons_zero])
      refine wpAnyH_take (i := 12) (oi := _) (v := ?_) rfl (by kernel_rfl) (by kernel_rfl) (by kernel_rfl) (fun _ _ _ h => h) (Or.inl ⟨?_, ?_⟩) hH0 ?_
      rotate_left
      · kernel_rfl
      · (intro W' hSw; obtain ⟨⟨s0, s1, s2⟩, ⟨r0, r1, r2⟩, s5⟩ := hSw; go_simp; (try with_reducible rfl))
      (try simp only [List.getElem_toArray])
      (try simp only [List.getElem_cons_succ])
      (try simp only [List.getElem_cons_zero])
      (try simp only [Act.put])
      (try simp only [List.setIfInBounds_toArray])
      (try simp only [List.set_cons_succ])
      (try simp only [List.set_cons_zero])
      refine wpAnyH_take (i := 13) (oi := _) (v := undef) rfl (by kernel_rfl) (by kernel_rfl) (by kernel_rfl) (fun _ _ _ h => h) (Or.inr ⟨?_, rfl⟩) hH0 ?_
      · kernel_rfl
      (try simp only [List.getElem_toArray])
      (try simp only [List.getElem_cons_succ])
      (try simp only [List.getElem_cons_zero])
      (try simp only [Act.put])
      (try simp only [List.setIfInBounds_toArray])
      (try simp only [List.set_cons_succ])
      (try simp only [List.set_cons_zero])
      refine wpAnyH_take (i := 14) (oi := _) (v := undef) rfl (by kernel_rfl) (by kernel_rfl) (by kernel_rfl) (fun _ _ _ h => h) (Or.inr ⟨?_, rfl⟩) hH0 ?_
      · kernel_rfl
      (try simp only [List.getElem_toArray])
      (try simp only [List.getElem_cons_succ])
      (try simp only [List.getElem_cons_zero])
      (try simp only [Act.put])
      (try simp only [List.setIfInBounds_toArray])
      (try simp only [List.set_cons_succ])
      (try simp only [List.set_cons_zero])
      refine wpAnyH_take (i := 15) (oi := _) (v := undef) rfl (by kernel_rfl) (by kernel_rfl) (by kernel_rfl) (fun _ _ _ h => h) (Or.inr ⟨?_, rfl⟩) hH0 ?_
      · kernel_rfl
      (try simp only [List.getElem_toArray])
      (try simp only [List.getElem_cons_succ])
      (try simp only [List.getElem_cons_zero])
      (try simp only [Act.put])
      (try simp only [List.setIfInBounds_toArray])
      (try simp only [List.set_cons_succ])
      (try simp only [List.set_cons_zero])
      refine wpAnyH_take (i := 16) (oi := _) (v := undef) rfl (by kernel_rfl) (by kernel_rfl) (by kernel_rfl) (fun _ _ _ h => h) (Or.inr ⟨?_, rfl⟩) hH0 ?_
      · kernel_rfl
      (try simp only [List.getElem_toArray])
      (try simp only [List.getElem_cons_succ])
      (try simp only [List.getElem_cons_zero])
      (try simp only [Act.put])
      (try simp only [List.setIfInBounds_toArray])
      (try simp only [List.set_cons_succ])
      (try simp only [List.set_cons_zero])
      refine wpAnyH_take (i := 17) (oi := _) (v := undef) rfl (by kernel_rfl) (by kernel_rfl) (by kernel_rfl) (fun _ _ _ h => h) (Or.inr ⟨?_, rfl⟩) hH0 ?_
      · kernel_rfl
      (try simp only [List.getElem_toArray])
      (try simp only [List.getElem_cons_succ])
      (try simp only [List.getElem_cons_zero])
      (try simp only [Act.put])
      (try simp only [List.setIfInBounds_toArray])
      (try simp only [List.set_cons_succ])
      (try simp only [List.set_cons_zero])
      refine wpAnyH_take (i := 18) (oi := _) (v := undef) rfl (by kernel_rfl) (by kernel_rfl) (by kernel_rfl) (fun _ _ _ h => h) (Or.inr ⟨?_, rfl⟩) hH0 ?_
      · kernel_rfl
      (try simp only [List.getElem_toArray])
      (try simp only [List.getElem_cons_succ])
      (try simp only [List.getElem_cons_zero])
      (try simp only [Act.put])
      (try simp only [List.setIfInBounds_toArray])
      (try simp only [List.set_cons_succ])
      (try simp only [List.set_cons_zero])
      refine wpAnyH_take (i := 19) (oi := _) (v := undef) rfl (by kernel_rfl) (by kernel_rfl) (by kernel_rfl) (fun _ _ _ h => h) (Or.inr ⟨?_, rfl⟩) hH0 ?_
      · kernel_rfl
      (try simp only [List.getElem_toArray])
      (try simp only [List.getElem_cons_succ])
      (try simp only [List.getElem_cons_zero])
      (try simp only [Act.put])
      (try simp only [List.setIfInBounds_toArray])
      (try simp only [List.set_cons_succ])
      (try simp only [List.set_cons_zero])
      refine wpAnyH_take (i := 20) (oi := _) (v := undef) rfl (by kernel_rfl) (by kernel_rfl) (by kernel_rfl) (fun _ _ _ h => h) (Or.inr ⟨?_, rfl⟩) hH0 ?_
      · kernel_rfl
      (try simp only [List.getElem_toArray])
      (try simp only [List.getElem_cons_succ])
      (try simp only [List.getElem_cons_zero])
      (try simp only [Act.put])
      (try simp only [List.setIfInBounds_toArray])
      (try simp only [List.set_cons_succ])
      (try simp only [List.set_cons_zero])
      refine wpAnyH_take (i := 21) (oi := _) (v := undef) rfl (by kernel_rfl) (by kernel_rfl) (by kernel_rfl) (fun _ _ _ h => h) (Or.inr ⟨?_, rfl⟩) hH0 ?_
      · kernel_rfl
      (try simp only [List.getElem_toArray])
      (try simp only [List.getElem_cons_succ])
      (try simp only [List.getElem_cons_zero])
      (try simp only [Act.put])
      (try simp only [List.setIfInBounds_toArray])
      (try simp only [List.set_cons_succ])
      (try simp only [List.set_cons_zero])
      refine wpAnyH_take (i := 22) (oi := _) (v := undef) rfl (by kernel_rfl) (by kernel_rfl) (by kernel_rfl) (fun _ _ _ h => h) (Or.inr ⟨?_, rfl⟩) hH0 ?_
      · kernel_rfl
      (try simp only [List.getElem_toArray])
      (try simp only [List.getElem_cons_succ])
      (try simp only [List.getElem_cons_zero])
      (try simp only [Act.put])
      (try simp only [List.setIfInBounds_toArray])
      (try simp only [List.set_cons_succ])
      (try simp only [List.set_cons_zero])
      refine wpAnyH_take (i := 23) (oi := _) (v := undef) rfl (by kernel_rfl) (by kernel_rfl) (by kernel_rfl) (fun _ _ _ h => h) (Or.inr ⟨?_, rfl⟩) hH0 ?_
      · kernel_rfl
      (try simp only [List.getElem_toArray])
      (try simp only [List.getElem_cons_succ])
      (try simp only [List.getElem_cons_zero])
      (try simp only [Act.put])
      (try simp only [List.setIfInBounds_toArray])
      (try simp only [List.set_cons_succ])
      (try simp only [List.set_cons_zero])
      refine wpAnyH_take (i := 24) (oi := _) (v := undef) rfl (by kernel_rfl) (by kernel_rfl) (by kernel_rfl) (fun _ _ _ h => h) (Or.inr ⟨?_, rfl⟩) hH0 ?_
      · kernel_rfl
      (try simp only [List.getElem_toArray])
      (try simp only [List.getElem_cons_succ])
      (try simp only [List.getElem_cons_zero])
      (try simp only [Act.put])
      (try simp only [List.setIfInBounds_toArray])
      (try simp only [List.set_cons_succ])
      (try simp only [List.set_cons_zero])
      refine wpAnyH_take (i := 25) (oi := _) (v := undef) rfl (by kernel_rfl) (by kernel_rfl) (by kernel_rfl) (fun _ _ _ h => h) (Or.inr ⟨?_, rfl⟩) hH0 ?_
      · kernel_rfl
      (try simp only [List.getElem_toArray])
      (try simp only [List.getElem_cons_succ])
      (try simp only [List.getElem_cons_zero])
      (try simp only [Act.put])
      (try simp only [List.setIfInBounds_toArray])
      (try simp only [List.set_cons_succ])
      (try simp only [List.set_cons_zero])
      refine wpAnyH_take (i := 26) (oi := _) (v := undef) rfl (by kernel_rfl) (by kernel_rfl) (by kernel_rfl) (fun _ _ _ h => h) (Or.inr ⟨?_, rfl⟩) hH0 ?_
      · kernel_rfl
      (try simp only [List.getElem_toArray])
      (try simp only [List.getElem_cons_succ])
      (try simp only [List.getElem_cons_zero])
      (try simp only [Act.put])
      (try simp only [List.setIfInBounds_toArray])
      (try simp only [List.set_cons_succ])
      (try simp only [List.set_cons_zero])
      refine wpAnyH_take (i := 27) (oi := _) (v := undef) rfl (by kernel_rfl) (by kernel_rfl) (by kernel_rfl) (fun _ _ _ h => h) (Or.inr ⟨?_, rfl⟩) hH0 ?_
      · kernel_rfl
      (try simp only [List.getElem_toArray])
      (try simp only [List.getElem_cons_succ])
      (try simp only [List.getElem_cons_zero])
      (try simp only [Act.put])
      (try simp only [List.setIfInBounds_toArray])
      (try simp only [List.set_cons_succ])
      (try simp only [List.set_cons_zero])
      refine wpAnyH_take (i := 28) (oi := _) (v := ?_) rfl (by kernel_rfl) (by kernel_rfl) (by kernel_rfl) (fun _ _ _ h => h) (Or.inl ⟨?_, ?_⟩) hH0 ?_
      rotate_left
      · kernel_rfl
      · (intro W' hSw; obtain ⟨⟨s0, s1, s2⟩, ⟨r0, r1, r2⟩, s5⟩ := hSw; go_simp; (try with_reducible rfl))
      (try simp only [List.getElem_toArray])
      (try simp only [List.getElem_cons_succ])
      (try simp only [List.getElem_cons_zero])
      (try simp only [Act.put])
      (try simp only [List.setIfInBounds_toArray])
      (try simp only [List.set_cons_succ])
      (try simp only [List.set_cons_zero])
      refine wpAnyH_take (i := 29) (oi := _) (v := ?_) rfl (by kernel_rfl) (by kernel_rfl) (by kernel_rfl) (fun _ _ _ h => h) (Or.inl ⟨?_, ?_⟩) hH0 ?_
      rotate_left
      · kernel_rfl
      · (intro W' hSw; obtain ⟨⟨s0, s1, s2⟩, ⟨r0, r1, r2⟩, s5⟩ := hSw; go_simp; (try with_reducible rfl))
      (try simp only [List.getElem_toArray])
      (try simp only [List.getElem_cons_succ])
      (try simp only [List.getElem_cons_zero])
      (try simp only [Act.put])
      (try simp only [List.setIfInBounds_toArray])
      (try simp only [List.set_cons_succ])
      (try simp only [List.set_cons_zero])
      refine wpAnyH_ready (rs := [30]) (by kernel_rfl) (by simp) ?_
      refine AllReadyH.cons (o := _) rfl (fun K hK => ?_) AllReadyH.nil
      go_simp
      refine (live_any _ (HL.out.keep hH0.2.2)).mono ?_
      rintro e W8 ⟨rfl, hk3⟩
      refine hK.out _ _ (hH0.keep hk3) (fun hH3 => ?_)
      clear hK K
      (try simp only [List.getElem_toArray])
      (try simp only [List.getElem_cons_succ])
      (try simp only [List.getElem_cons_zero])
      (try simp only [Act.put])
      (try simp only [List.setIfInBounds_toArray])
      (try simp only [List.set_cons_succ])
      (try simp only [List.set_cons_zero])
      refine wpAnyH_take (i := 31) (oi := _) (v := ?_) rfl (by kernel_rfl) (by kernel_rfl) (by kernel_rfl) (fun _ _ _ h => h) (Or.inl ⟨?_, ?_⟩) hH3 ?_
      rotate_left
      · kernel_rfl
      · (intro W' hSw; obtain ⟨⟨s0, s1, s2⟩, ⟨r0, r1, r2⟩, s5⟩ := hSw; go_simp; (try with_reducible rfl))
      (try simp only [List.getElem_toArray])
      (try simp only [List.getElem_cons_succ])
      (try simp only [List.getElem_cons_zero])
      (try simp only [Act.put])
      (try simp only [List.setIfInBounds_toArray])
      (try simp only [List.set_cons_succ])
      (try simp only [List.set_cons_zero])
      refine wpAnyH_take (i := 32) (oi := _) (v := ?_) rfl (by kernel_rfl) (by kernel_rfl) (by kernel_rfl) (fun _ _ _ h => h) (Or.inl ⟨?_, ?_⟩) hH3 ?_
      rotate_left
      · kernel_rfl
      · (intro W' hSw; obtain ⟨⟨s0, s1, s2⟩, ⟨r0, r1, r2⟩, s5⟩ := hSw; go_simp; (try with_reducible rfl))
      (try simp only [List.getElem_toArray])
      (try simp only [List.getElem_cons_succ])
      (try simp only [List.getElem_cons_zero])
      (try simp only [Act.put])
      (try simp only [List.setIfInBounds_toArray])
      (try simp only [List.set_cons_succ])
      (try simp only [List.set_cons_zero])
      refine wpAnyH_done (by kernel_rfl) ?_ _
      have ZZ := hH3.2.2
      clear hk3 hH0 hH3
      go_wp2_with fail
      go_ret
      exact ⟨by first | rfl | simp, ZZ⟩
    · have d1 : decide (sy < sx) = false := by simpa using c1
      by_cases c2 : sz < sy
      · have d2 : decide (sz < sy) = true := by simpa using c2
        refine wp_region_held_drew (S := KS2 w.heap.size (.string nm) (.slice wo we.length wc) (.slice hp ho.length hc) (w.heap.size + 1) (.int .i64 sx) (.int .i64 sy) (.int .i64 sz) w) (by kernel_rfl) ⟨HX.out.keep (bdn (bref _) 1), HY.out.keep (bdn (bref _) 1), bdn Z3.out 1⟩ (fun hH0 => ?_)
        refine wpAnyH_take (i := 0) (oi := _) (v := ?_) rfl (by kernel_rfl) (by kernel_rfl) (by kernel_rfl) (fun _ _ _ h => h) (Or.inl ⟨?_, ?_⟩) hH0 ?_
        rotate_left
        · kernel_rfl
        · (intro W' hSw; obtain ⟨⟨s0, s1, s2⟩, ⟨r0, r1, r2⟩, s5⟩ := hSw; go_simp; (try with_reducible rfl))
        (try simp only [List.getElem_toArray])
        (try simp only [List.getElem_cons_succ])
        (try simp only [List.getElem_cons_zero])
        (try simp only [Act.put])
        (try simp only [List.setIfInBounds_toArray])
        (try simp only [List.set_cons_succ])
        (try simp only [List.set_cons_zero])
        refine wpAnyH_take (i := 1) (oi := _) (v := ?_) rfl (by kernel_rfl) (by kernel_rfl) (by kernel_rfl) (fun _ _ _ h => h) (Or.inl ⟨?_, ?_⟩) hH0 ?_
        rotate_left
        · kernel_rfl
        · (intro W' hSw; obtain ⟨⟨s0, s1, s2⟩, ⟨r0, r1, r2⟩, s5⟩ := hSw; go_simp; (try with_reducible rfl))
        (try simp only [List.getElem_toArray])
        (try simp only [List.getElem_cons_succ])
        (try simp only [List.getElem_cons_zero])
        (try simp only [Act.put])
        (try simp only [List.setIfInBounds_toArray])
        (try simp only [List.set_cons_succ])
        (try simp only [List.set_cons_zero])
        refine wpAnyH_take (i := 2) (oi := _) (v := ?_) rfl (by kernel_rfl) (by kernel_rfl) (by kernel_rfl) (fun _ _ _ h => h) (Or.inl ⟨?_, ?_⟩) hH0 ?_
        rotate_left
        · kernel_rfl
        · (intro W' hSw; obtain ⟨⟨s0, s1, s2⟩, ⟨r0, r1, r2⟩, s5⟩ := hSw; go_simp; (try with_reducible rfl))
        (try simp only [List.getElem_toArray])
        (try simp only [List.getElem_cons_succ])
        (try simp only [List.getElem_cons_zero])
        (try simp only [Act.put])
        (try simp only [List.setIfInBounds_toArray])
        (try simp only [List.set_cons_succ])
        (try simp only [List.set_cons_zero])
        refine wpAnyH_take (i := 3) (oi := _) (v := ?_) rfl (by kernel_rfl) (by kernel_rfl) (by kernel_rfl) (fun _ _ _ h => h) (Or.inl ⟨?_, ?_⟩) hH0 ?_
        rotate_left
        · kernel_rfl
        · (intro W' hSw; obtain ⟨⟨s0, s1, s2⟩, ⟨r0, r1, r2⟩, s5⟩ := hSw; go_simp; (try with_reducible rfl))
        (try simp only [List.getElem_toArray])
        (try simp only [List.getElem_cons_succ])
        (try simp only [List.getElem_cons_zero])
        (try simp only [Act.put])
        (try simp only [List.setIfInBounds_toArray])
        (try simp only [List.set_cons_succ])
        (try simp only [List.set_cons_zero])
        refine wpAnyH_take (i := 4) (oi := _) (v := ?_) rfl (by kernel_rfl) (by kernel_rfl) (by kernel_rfl) (fun _ _ _ h => h) (Or.inl ⟨?_, ?_⟩) hH0 ?_
        rotate_left
        · kernel_rfl
        · (intro W' hSw; obtain ⟨⟨s0, s1, s2⟩, ⟨r0, r1, r2⟩, s5⟩ := hSw; go_simp; (try with_reducible rfl))
        (try simp only [List.getElem_toArray])
        (try simp only [List.getElem_cons_succ])
        (try simp only [List.getElem_cons_zero])
        (try simp only [Act.put])
        (try simp only [List.setIfInBounds_toArray])
        (try simp only [List.set_cons_succ])
        (try simp only [List.set_cons_zero])
        refine wpAnyH_take (i := 5) (oi := _) (v := ?_) rfl (by kernel_rfl) (by kernel_rfl) (by kernel_rfl) (fun _ _ _ h => h) (Or.inl ⟨?_, ?_⟩) hH0 ?_
        rotate_left
        · kernel_rfl
        · (intro W' hSw; obtain ⟨⟨s0, s1, s2⟩, ⟨r0, r1, r2⟩, s5⟩ := hSw; go_simp; (try with_reducible rfl))
        (try simp only [List.getElem_toArray])
        (try simp only [List.getElem_cons_succ])
        (try simp only [List.getElem_cons_zero])
        (try simp only [Act.put])
        (try simp only [List.setIfInBounds_toArray])
        (try simp only [List.set_cons_succ])
        (try simp only [List.set_cons_zero])
        refine wpAnyH_take (i := 6) (oi := _) (v := ?_) rfl (by kernel_rfl) (by kernel_rfl) (by kernel_rfl) (fun _ _ _ h => h) (Or.inl ⟨?_, ?_⟩) hH0 ?_
        rotate_left
        · kernel_rfl
        · (intro W' hSw; obtain ⟨⟨s0, s1, s2⟩, ⟨r0, r1, r2⟩, s5⟩ := hSw; go_simp; (try with_reducible rfl))
        (try simp only [List.getElem_toArray])
        (try simp only [List.getElem_cons_succ])
        (try simp only [List.getElem_cons_zero])
        (try simp only [Act.put])
        (try simp only [List.setIfInBounds_toArray])
        (try simp only [List.set_cons_succ])
        (try simp only [List.set_cons_zero])
        refine wpAnyH_take (i := 7) (oi := _) (v := ?_) rfl (by kernel_rfl) (by kernel_rfl) (by kernel_rfl) (fun _ _ _ h => h) (Or.inl ⟨?_, ?_⟩) hH0 ?_
        rotate_left
        · kernel_rfl
        · (intro W' hSw; obtain ⟨⟨s0, s1, s2⟩, ⟨r0, r1, r2⟩, s5⟩ := hSw; go_simp; (try with_reducible rfl))
        (try simp only [List.getElem_toArray])
        (try simp only [List.getElem_cons_succ])
        (try simp only [List.getElem_cons_zero])
        (try simp only [Act.put])
        (try simp only [List.setIfInBounds_toArray])
        (try simp only [List.set_cons_succ])
        (try simp only [List.set_cons_zero])
        refine wpAnyH_take (i := 8) (oi := _) (v := ?_) rfl (by kernel_rfl) (by kernel_rfl) (by kernel_rfl) (fun _ _ _ h => h) (Or.inl ⟨?_, ?_⟩) hH0 ?_
        rotate_left
        · kernel_rfl
        · (intro W' hSw; obtain ⟨⟨s0, s1, s2⟩, ⟨r0, r1, r2⟩, s5⟩ := hSw; go_simp; (try with_reducible rfl))
        (try simp only [List.getElem_toArray])
        (try simp only [List.getElem_cons_succ])
        (try simp only [List.getElem_cons_zero])
        (try simp only [Act.put])
        (try simp only [List.setIfInBounds_toArray])
        (try simp only [List.set_cons_succ])
        (try simp only [List.set_cons_zero])
        refine wpAnyH_take (i := 9) (oi := _) (v := ?_) rfl (by kernel_rfl) (by kernel_rfl) (by kernel_rfl) (fun _ _ _ h => h) (Or.inl ⟨?_, ?_⟩) hH0 ?_
        rotate_left
        · kernel_rfl
        · (intro W' hSw; obtain ⟨⟨s0, s1, s2⟩, ⟨r0, r1, r2⟩, s5⟩ := hSw; go_simp; (try with_reducible rfl))
        (try simp only [List.getElem_toArray])
        (try simp only [List.getElem_cons_succ])
        (try simp only [List.getElem_cons_zero])
        (try simp only [Act.put])
        (try simp only [List.setIfInBounds_toArray])
        (try simp only [List.set_cons_succ])
        (try simp only [List.set_cons_zero])
        refine wpAnyH_take (i := 10) (oi := _) (v := ?_) rfl (by kernel_rfl) (by kernel_rfl) (by kernel_rfl) (fun _ _ _ h => h) (Or.inl ⟨?_, ?_⟩) hH0 ?_
        rotate_left
        · kernel_rfl
        · (intro W' hSw; obtain ⟨⟨s0, s1, s2⟩, ⟨r0, r1, r2⟩, s5⟩ := hSw; go_simp; (try with_reducible rfl))
        (try simp only [List.getElem_toArray])
        (try simp only [List.getElem_cons_succ])
        (try simp only [List.getElem_cons_zero])
        (try simp only [Act.put])
        (try simp only [List.setIfInBounds_toArray])
        (try simp only [List.set_cons_succ])
        (try simp only [List.set_cons_zero])
        refine wpAnyH_take (i := 11) (oi := _) (v := ?_) rfl (by kernel_rfl) (by kernel_rfl) (by kernel_rfl) (fun _ _ _ h => h) (Or.inl ⟨?_, ?_⟩) hH0 ?_
        rotate_left
        · kernel_rfl
        · (intro W' hSw; obtain ⟨⟨s0, s1, s2⟩, ⟨r0, r1, r2⟩, s5⟩ := hSw; go_simp; (try with_reducible rfl))
        (try simp only [List.getElem_toArray])
        (try simp only [List.getElem_cons_succ])
        (try simp only [List.getElem_cons_zero])
        (try simp only [Act.put])
        (try simp only [List.setIfInBounds_toArray])
        (try simp only [List.set_cons_succ])
        (try simp only [List.set_cons_zero])
        refine wpAnyH_take (i := 12) (oi := _) (v := ?_) rfl (by kernel_rfl) (by kernel_rfl) (by kernel_rfl) (fun _ _ _ h => h) (Or.inl ⟨?_, ?_⟩) hH0 ?_
        rotate_left
        · kernel_rfl
        · (intro W' hSw; obtain ⟨⟨s0, s1, s2⟩, ⟨r0, r1, r2⟩, s5⟩ := hSw; go_simp; (try with_reducible rfl))
        (try simp only [List.getElem_toArray])
        (try simp only [List.getElem_cons_succ])
        (try simp only [List.getElem_cons_zero])
        (try simp only [Act.put])
        (try simp only [List.setIfInBounds_toArray])
        (try simp only [List.set_cons_succ])
        (try simp only [List.set_cons_zero])
        refine wpAnyH_take (i := 13) (oi := _) (v := undef) rfl (by kernel_rfl) (by kernel_rfl) (by kernel_rfl) (fun _ _ _ h => h) (Or.inr ⟨?_, rfl⟩) hH0 ?_
        · kernel_rfl
        (try simp only [List.getElem_toArray])
        (try simp only [List.getElem_cons_succ])
        (try simp only [List.getElem_cons_zero])
        (try simp only [Act.put])
        (try simp only [List.setIfInBounds_toArray])
        (try simp only [List.set_cons_succ])
        (try simp only [List.set_cons_zero])
        refine wpAnyH_take (i := 14) (oi := _) (v := undef) rfl (by kernel_rfl) (by kernel_rfl) (by kernel_rfl) (fun _ _ _ h => h) (Or.inr ⟨?_, rfl⟩) hH0 ?_
        · kernel_rfl
        (try simp only [List.getElem_toArray])
        (try simp only [List.getElem_cons_succ])
        (try simp only [List.getElem_cons_zero])
        (try simp only [Act.put])
        (try simp only [List.setIfInBounds_toArray])
        (try simp only [List.set_cons_succ])
        (try simp only [List.set_cons_zero])
        refine wpAnyH_take (i := 15) (oi := _) (v := undef) rfl (by kernel_rfl) (by kernel_rfl) (by kernel_rfl) (fun _ _ _ h => h) (Or.inr ⟨?_, rfl⟩) hH0 ?_
        · kernel_rfl
        (try simp only [List.getElem_toArray])
        (try simp only [List.getElem_cons_succ])
        (try simp only [List.getElem_cons_zero])
        (try simp only [Act.put])
        (try simp only [List.setIfInBounds_toArray])
        (try simp only [List.set_cons_succ])
        (try simp only [List.set_cons_zero])
        refine wpAnyH_take (i := 16) (oi := _) (v := undef) rfl (by kernel_rfl) (by kernel_rfl) (by kernel_rfl) (fun _ _ _ h => h) (Or.inr ⟨?_, rfl⟩) hH0 ?_
        · kernel_rfl
        (try simp only [List.getElem_toArray])
        (try simp only [List.getElem_cons_succ])
        (try simp only [List.getElem_cons_zero])
        (try simp only [Act.put])
        (try simp only [List.setIfInBounds_toArray])
        (try simp only [List.set_cons_succ])
        (try simp only [List.set_cons_zero])
        refine wpAnyH_take (i := 17) (oi := _) (v := undef) rfl (by kernel_rfl) (by kernel_rfl) (by kernel_rfl) (fun _ _ _ h => h) (Or.inr ⟨?_, rfl⟩) hH0 ?_
        · kernel_rfl
        (try simp only [List.getElem_toArray])
        (try simp only [List.getElem_cons_succ])
        (try simp only [List.getElem_cons_zero])
        (try simp only [Act.put])
        (try simp only [List.setIfInBounds_toArray])
        (try simp only [List.set_cons_succ])
        (try simp only [List.set_cons_zero])
        refine wpAnyH_take (i := 18) (oi := _) (v := undef) rfl (by kernel_rfl) (by kernel_rfl) (by kernel_rfl) (fun _ _ _ h => h) (Or.inr ⟨?_, rfl⟩) hH0 ?_
        · kernel_rfl
        (try simp only [List.getElem_toArray])
        (try simp only [List.getElem_cons_succ])
        (try simp only [List.getElem_cons_zero])
        (try simp only [Act.put])
        (try simp only [List.setIfInBounds_toArray])
        (try simp only [List.set_cons_succ])
        (try simp only [List.set_cons_zero])
        refine wpAnyH_take (i := 19) (oi := _) (v := undef) rfl (by kernel_rfl) (by kernel_rfl) (by kernel_rfl) (fun _ _ _ h => h) (Or.inr ⟨?_, rfl⟩) hH0 ?_
        · kernel_rfl
        (try simp only [List.getElem_toArray])
        (try simp only [List.getElem_cons_succ])
        (try simp only [List.getElem_cons_zero])
        (try simp only [Act.put])
        (try simp only [List.setIfInBounds_toArray])
        (try simp only [List.set_cons_succ])
        (try simp only [List.set_cons_zero])
        refine wpAnyH_take (i := 20) (oi := _) (v := undef) rfl (by kernel_rfl) (by kernel_rfl) (by kernel_rfl) (fun _ _ _ h => h) (Or.inr ⟨?_, rfl⟩) hH0 ?_
        · kernel_rfl
        (try simp only [List.getElem_toArray])
        (try simp only [List.getElem_cons_succ])
        (try simp only [List.getElem_cons_zero])
        (try simp only [Act.put])
        (try simp only [List.setIfInBounds_toArray])
        (try simp only [List.set_cons_succ])
        (try simp only [List.set_cons_zero])
        refine wpAnyH_take (i := 21) (oi := _) (v := undef) rfl (by kernel_rfl) (by kernel_rfl) (by kernel_rfl) (fun _ _ _ h => h) (Or.inr ⟨?_, rfl⟩) hH0 ?_
        · kernel_rfl
        (try simp only [List.getElem_toArray])
        (try simp only [List.getElem_cons_succ])
        (try simp only [List.getElem_cons_zero])
        (try simp only [Act.put])
        (try simp only [List.setIfInBounds_toArray])
        (try simp only [List.set_cons_succ])
        (try simp only [List.set_cons_zero])
        refine wpAnyH_take (i := 22) (oi := _) (v := undef) rfl (by kernel_rfl) (by kernel_rfl) (by kernel_rfl) (fun _ _ _ h => h) (Or.inr ⟨?_, rfl⟩) hH0 ?_
        · kernel_rfl
        (try simp only [List.getElem_toArray])
        (try simp only [List.getElem_cons_succ])
        (try simp only [List.getElem_cons_zero])
        (try simp only [Act.put])
        (try simp only [List.setIfInBounds_toArray])
        (try simp only [List.set_cons_succ])
        (try simp only [List.set_cons_zero])
        refine wpAnyH_take (i := 23) (oi := _) (v := undef) rfl (by kernel_rfl) (by kernel_rfl) (by kernel_rfl) (fun _ _ _ h => h) (Or.inr ⟨?_, rfl⟩) hH0 ?_
        · kernel_rfl
        (try simp only [List.getElem_toArray])
        (try simp only [List.getElem_cons_succ])
        (try simp only [List.getElem_cons_zero])
        (try simp only [Act.put])
        (try simp only [List.setIfInBounds_toArray])
        (try simp only [List.set_cons_succ])
        (try simp only [List.set_cons_zero])
        refine wpAnyH_take (i := 24) (oi := _) (v := undef) rfl (by kernel_rfl) (by kernel_rfl) (by kernel_rfl) (fun _ _ _ h => h) (Or.inr ⟨?_, rfl⟩) hH0 ?_
        · kernel_rfl
        (try simp only [List.getElem_toArray])
        (try simp only [List.getElem_cons_succ])
        (try simp only [List.getElem_cons_zero])
        (try simp only [Act.put])
        (try simp only [List.setIfInBounds_toArray])
        (try simp only [List.set_cons_succ])
        (try simp only [List.set_cons_zero])
        refine wpAnyH_take (i := 25) (oi := _) (v := undef) rfl (by kernel_rfl) (by kernel_rfl) (by kernel_rfl) (fun _ _ _ h => h) (Or.inr ⟨?_, rfl⟩) hH0 ?_
        · kernel_rfl
        (try simp only [List.getElem_toArray])
        (try simp only [List.getElem_cons_succ])
        (try simp only [List.getElem_cons_zero])
        (try simp only [Act.put])
        (try simp only [List.setIfInBounds_toArray])
        (try simp only [List.set_cons_succ])
        (try simp only [List.set_cons_zero])
        refine wpAnyH_take (i := 26) (oi := _) (v := undef) rfl (by kernel_rfl) (by kernel_rfl) (by kernel_rfl) (fun _ _ _ h => h) (Or.inr ⟨?_, rfl⟩) hH0 ?_
        · kernel_rfl
        (try simp only [List.getElem_toArray])
        (try simp only [List.getElem_cons_succ])
        (try simp only [List.getElem_cons_zero])
        (try simp only [Act.put])
        (try simp only [List.setIfInBounds_toArray])
        (try simp only [List.set_cons_succ])
        (try simp only [List.set_cons_zero])
        refine wpAnyH_take (i := 27) (oi := _) (v := undef) rfl (by kernel_rfl) (by kernel_rfl) (by kernel_rfl) (fun _ _ _ h => h) (Or.inr ⟨?_, rfl⟩) hH0 ?_
        · kernel_rfl
        (try simp only [List.getElem_toArray])
        (try simp only [List.getElem_cons_succ])
        (try simp only [List.getElem_cons_zero])
        (try simp only [Act.put])
        (try simp only [List.setIfInBounds_toArray])
        (try simp only [List.set_cons_succ])
        (try simp only [List.set_cons_zero])
        refine wpAnyH_take (i := 28) (oi := _) (v := ?_) rfl (by kernel_rfl) (by kernel_rfl) (by kernel_rfl) (fun _ _ _ h => h) (Or.inl ⟨?_, ?_⟩) hH0 ?_
        rotate_left
        · kernel_rfl
        · (intro W' hSw; obtain ⟨⟨s0, s1, s2⟩, ⟨r0, r1, r2⟩, s5⟩ := hSw; go_simp; (try with_reducible rfl))
        (try simp only [List.getElem_toArray])
        (try simp only [List.getElem_cons_succ])
        (try simp only [List.getElem_cons_zero])
        (try simp only [Act.put])
        (try simp only [List.setIfInBounds_toArray])
        (try simp only [List.set_cons_succ])
        (try simp only [List.set_cons_zero])
        refine wpAnyH_take (i := 29) (oi := _) (v := ?_) rfl (by kernel_rfl) (by kernel_rfl) (by kernel_rfl) (fun _ _ _ h => h) (Or.inl ⟨?_, ?_⟩) hH0 ?_
        rotate_left
        · kernel_rfl
        · (intro W' hSw; obtain ⟨⟨s0, s1, s2⟩, ⟨r0, r1, r2⟩, s5⟩ := hSw; go_simp; (try with_reducible rfl))
        (try simp only [List.getElem_toArray])
        (try simp only [List.getElem_cons_succ])
        (try simp only [List.getElem_cons_zero])
        (try simp only [Act.put])
        (try simp only [List.setIfInBounds_toArray])
        (try simp only [List.set_cons_succ])
        (try simp only [List.set_cons_zero])
        refine wpAnyH_ready (rs := [30]) (by kernel_rfl) (by simp) ?_
        refine AllReadyH.cons (o := _) rfl (fun K hK => ?_) AllReadyH.nil
        go_simp
        refine (live_any _ (HL.out.keep hH0.2.2)).mono ?_
        rintro e W8 ⟨rfl, hk3⟩
        refine hK.out _ _ (hH0.keep hk3) (fun hH3 => ?_)
        clear hK K
        (try simp only [List.getElem_toArray])
        (try simp only [List.getElem_cons_succ])
        (try simp only [List.getElem_cons_zero])
        (try simp only [Act.put])
        (try simp only [List.setIfInBounds_toArray])
        (try simp only [List.set_cons_succ])
        (try simp only [List.set_cons_zero])
        refine wpAnyH_take (i := 31) (oi := _) (v := ?_) rfl (by kernel_rfl) (by kernel_rfl) (by kernel_rfl) (fun _ _ _ h => h) (Or.inl ⟨?_, ?_⟩) hH3 ?_
        rotate_left
        · kernel_rfl
        · (intro W' hSw; obtain ⟨⟨s0, s1, s2⟩, ⟨r0, r1, r2⟩, s5⟩ := hSw; go_simp; (try with_reducible rfl))
        (try simp only [List.getElem_toArray])
        (try simp only [List.getElem_cons_succ])
        (try simp only [List.getElem_cons_zero])
        (try simp only [Act.put])
        (try simp only [List.setIfInBounds_toArray])
        (try simp only [List.set_cons_succ])
        (try simp only [List.set_cons_zero])
        refine wpAnyH_take (i := 32) (oi := _) (v := ?_) rfl (by kernel_rfl) (by kernel_rfl) (by kernel_rfl) (fun _ _ _ h => h) (Or.inl ⟨?_, ?_⟩) hH3 ?_
        rotate_left
        · kernel_rfl
        · (intro W' hSw; obtain ⟨⟨s0, s1, s2⟩, ⟨r0, r1, r2⟩, s5⟩ := hSw; go_simp; (try with_reducible rfl))
        (try simp only [List.getElem_toArray])
        (try simp only [List.getElem_cons_succ])
        (try simp only [List.getElem_cons_zero])
        (try simp only [Act.put])
        (try simp only [List.setIfInBounds_toArray])
        (try simp only [List.set_cons_succ])
        (try simp only [List.set_cons_zero])
        refine wpAnyH_done (by kernel_rfl) ?_ _
        have ZZ := hH3.2.2
        clear hk3 hH0 hH3
        go_wp2_with fail
        go_ret
        exact ⟨by first | rfl | simp, ZZ⟩
      · have d2 : decide (sz < sy) = false := by simpa using c2
        have d3 : K1 + K2 = KK := a3 (by omega) (by omega)
        have d4 : (K1 + K2 == KK) = true := by rw [beq_iff_eq]; exact d3
        refine wp_region_held_drew (S := KS2 w.heap.size (.string nm) (.slice wo we.length wc) (.slice hp ho.length hc) (w.heap.size + 1) (.int .i64 sx) (.int .i64 sy) (.int .i64 sz) w) (by kernel_rfl) ⟨HX.out.keep (bdn (bref _) 1), HY.out.keep (bdn (bref _) 1), bdn Z3.out 1⟩ (fun hH0 => ?_)
        refine wpAnyH_take (i := 0) (oi := _) (v := ?_) rfl (by kernel_rfl) (by kernel_rfl) (by kernel_rfl) (fun _ _ _ h => h) (Or.inl ⟨?_, ?_⟩) hH0 ?_
        rotate_left
        · kernel_rfl
        · (intro W' hSw; obtain ⟨⟨s0, s1, s2⟩, ⟨r0, r1, r2⟩, s5⟩ := hSw; go_simp; (try with_reducible rfl))
        (try simp only [List.getElem_toArray])
        (try simp only [List.getElem_cons_succ])
        (try simp only [List.getElem_cons_zero])
        (try simp only [Act.put])
        (try simp only [List.setIfInBounds_toArray])
        (try simp only [List.set_cons_succ])
        (try simp only [List.set_cons_zero])
        refine wpAnyH_take (i := 1) (oi := _) (v := ?_) rfl (by kernel_rfl) (by kernel_rfl) (by kernel_rfl) (fun _ _ _ h => h) (Or.inl ⟨?_, ?_⟩) hH0 ?_
        rotate_left
        · kernel_rfl
        · (intro W' hSw; obtain ⟨⟨s0, s1, s2⟩, ⟨r0, r1, r2⟩, s5⟩ := hSw; go_simp; (try with_reducible rfl))
        (try simp only [List.getElem_toArray])
        (try simp only [List.getElem_cons_succ])
        (try simp only [List.getElem_cons_zero])
        (try simp only [Act.put])
        (try simp only [List.setIfInBounds_toArray])
        (try simp only [List.set_cons_succ])
        (try simp only [List.set_cons_zero])
        refine wpAnyH_take (i := 2) (oi := _) (v := ?_) rfl (by kernel_rfl) (by kernel_rfl) (by kernel_rfl) (fun _ _ _ h => h) (Or.inl ⟨?_, ?_⟩) hH0 ?_
        rotate_left
        · kernel_rfl
        · (intro W' hSw; obtain ⟨⟨s0, s1, s2⟩, ⟨r0, r1, r2⟩, s5⟩ := hSw; go_simp; (try with_reducible rfl))
        (try simp only [List.getElem_toArray])
        (try simp only [List.getElem_cons_succ])
        (try simp only [List.getElem_cons_zero])
        (try simp only [Act.put])
        (try simp only [List.setIfInBounds_toArray])
        (try simp only [List.set_cons_succ])
        (try simp only [List.set_cons_zero])
        refine wpAnyH_take (i := 3) (oi := _) (v := ?_) rfl (by kernel_rfl) (by kernel_rfl) (by kernel_rfl) (fun _ _ _ h => h) (Or.inl ⟨?_, ?_⟩) hH0 ?_
        rotate_left
        · kernel_rfl
        · (intro W' hSw; obtain ⟨⟨s0, s1, s2⟩, ⟨r0, r1, r2⟩, s5⟩ := hSw; go_simp; (try with_reducible rfl))
        (try simp only [List.getElem_toArray])
        (try simp only [List.getElem_cons_succ])
        (try simp only [List.getElem_cons_zero])
        (try simp only [Act.put])
        (try simp only [List.setIfInBounds_toArray])
        (try simp only [List.set_cons_succ])
        (try simp only [List.set_cons_zero])
        refine wpAnyH_take (i := 4) (oi := _) (v := ?_) rfl (by kernel_rfl) (by kernel_rfl) (by kernel_rfl) (fun _ _ _ h => h) (Or.inl ⟨?_, ?_⟩) hH0 ?_
        rotate_left
        · kernel_rfl
        · (intro W' hSw; obtain ⟨⟨s0, s1, s2⟩, ⟨r0, r1, r2⟩, s5⟩ := hSw; go_simp; (try with_reducible rfl))
        (try simp only [List.getElem_toArray])
        (try simp only [List.getElem_cons_succ])
        (try simp only [List.getElem_cons_zero])
        (try simp only [Act.put])
        (try simp only [List.setIfInBounds_toArray])
        (try simp only [List.set_cons_succ])
        (try simp only [List.set_cons_zero])
        refine wpAnyH_take (i := 5) (oi := _) (v := ?_) rfl (by kernel_rfl) (by kernel_rfl) (by kernel_rfl) (fun _ _ _ h => h) (Or.inl ⟨?_, ?_⟩) hH0 ?_
        rotate_left
        · kernel_rfl
        · (intro W' hSw; obtain ⟨⟨s0, s1, s2⟩, ⟨r0, r1, r2⟩, s5⟩ := hSw; go_simp; (try with_reducible rfl))
        (try simp only [List.getElem_toArray])
        (try simp only [List.getElem_cons_succ])
        (try simp only [List.getElem_cons_zero])
        (try simp only [Act.put])
        (try simp only [List.setIfInBounds_toArray])
        (try simp only [List.set_cons_succ])
        (try simp only [List.set_cons_zero])
        refine wpAnyH_take (i := 6) (oi := _) (v := ?_) rfl (by kernel_rfl) (by kernel_rfl) (by kernel_rfl) (fun _ _ _ h => h) (Or.inl ⟨?_, ?_⟩) hH0 ?_
        rotate_left
        · kernel_rfl
        · (intro W' hSw; obtain ⟨⟨s0, s1, s2⟩, ⟨r0, r1, r2⟩, s5⟩ := hSw; go_simp; (try with_reducible rfl))
        (try simp only [List.getElem_toArray])
        (try simp only [List.getElem_cons_succ])
        (try simp only [List.getElem_cons_zero])
        (try simp only [Act.put])
        (try simp only [List.setIfInBounds_toArray])
        (try simp only [List.set_cons_succ])
        (try simp only [List.set_cons_zero])
        refine wpAnyH_take (i := 7) (oi := _) (v := ?_) rfl (by kernel_rfl) (by kernel_rfl) (by kernel_rfl) (fun _ _ _ h => h) (Or.inl ⟨?_, ?_⟩) hH0 ?_
        rotate_left
        · kernel_rfl
        · (intro W' hSw; obtain ⟨⟨s0, s1, s2⟩, ⟨r0, r1, r2⟩, s5⟩ := hSw; go_simp; (try with_reducible rfl))
        (try simp only [List.getElem_toArray])
        (try simp only [List.getElem_cons_succ])
        (try simp only [List.getElem_cons_zero])
        (try simp only [Act.put])
        (try simp only [List.setIfInBounds_toArray])
        (try simp only [List.set_cons_succ])
        (try simp only [List.set_cons_zero])
        refine wpAnyH_take (i := 8) (oi := _) (v := ?_) rfl (by kernel_rfl) (by kernel_rfl) (by kernel_rfl) (fun _ _ _ h => h) (Or.inl ⟨?_, ?_⟩) hH0 ?_
        rotate_left
        · kernel_rfl
        · (intro W' hSw; obtain ⟨⟨s0, s1, s2⟩, ⟨r0, r1, r2⟩, s5⟩ := hSw; go_simp; (try with_reducible rfl))
        (try simp only [List.getElem_toArray])
        (try simp only [List.getElem_cons_succ])
        (try simp only [List.getElem_cons_zero])
        (try simp only [Act.put])
        (try simp only [List.setIfInBounds_toArray])
        (try simp only [List.set_cons_succ])
        (try simp only [List.set_cons_zero])
        refine wpAnyH_take (i := 9) (oi := _) (v := ?_) rfl (by kernel_rfl) (by kernel_rfl) (by kernel_rfl) (fun _ _ _ h => h) (Or.inl ⟨?_, ?_⟩) hH0 ?_
        rotate_left
        · kernel_rfl
        · (intro W' hSw; obtain ⟨⟨s0, s1, s2⟩, ⟨r0, r1, r2⟩, s5⟩ := hSw; go_simp; (try with_reducible rfl))
        (try simp only [List.getElem_toArray])
        (try simp only [List.getElem_cons_succ])
        (try simp only [List.getElem_cons_zero])
        (try simp only [Act.put])
        (try simp only [List.setIfInBounds_toArray])
        (try simp only [List.set_cons_succ])
        (try simp only [List.set_cons_zero])
        refine wpAnyH_take (i := 10) (oi := _) (v := ?_) rfl (by kernel_rfl) (by kernel_rfl) (by kernel_rfl) (fun _ _ _ h => h) (Or.inl ⟨?_, ?_⟩) hH0 ?_
        rotate_left
        · kernel_rfl
        · (intro W' hSw; obtain ⟨⟨s0, s1, s2⟩, ⟨r0, r1, r2⟩, s5⟩ := hSw; go_simp; (try with_reducible rfl))
        (try simp only [List.getElem_toArray])
        (try simp only [List.getElem_cons_succ])
        (try simp only [List.getElem_cons_zero])
        (try simp only [Act.put])
        (try simp only [List.setIfInBounds_toArray])
        (try simp only [List.set_cons_succ])
        (try simp only [List.set_cons_zero])
        refine wpAnyH_take (i := 11) (oi := _) (v := ?_) rfl (by kernel_rfl) (by kernel_rfl) (by kernel_rfl) (fun _ _ _ h => h) (Or.inl ⟨?_, ?_⟩) hH0 ?_
        rotate_left
        · kernel_rfl
        · (intro W' hSw; obtain ⟨⟨s0, s1, s2⟩, ⟨r0, r1, r2⟩, s5⟩ := hSw; go_simp; (try with_reducible rfl))
        (try simp only [List.getElem_toArray])
        (try simp only [List.getElem_cons_succ])
        (try simp only [List.getElem_cons_zero])
        (try simp only [Act.put])
        (try simp only [List.setIfInBounds_toArray])
        (try simp only [List.set_cons_succ])
        (try simp only [List.set_cons_zero])
        refine wpAnyH_take (i := 12) (oi := _) (v := ?_) rfl (by kernel_rfl) (by kernel_rfl) (by kernel_rfl) (fun _ _ _ h => h) (Or.inl ⟨?_, ?_⟩) hH0 ?_
        rotate_left
        · kernel_rfl
        · (intro W' hSw; obtain ⟨⟨s0, s1, s2⟩, ⟨r0, r1, r2⟩, s5⟩ := hSw; go_simp; (try with_reducible rfl))
        (try simp only [List.getElem_toArray])
        (try simp only [List.getElem_cons_succ])
        (try simp only [List.getElem_cons_zero])
        (try simp only [Act.put])
        (try simp only [List.setIfInBounds_toArray])
        (try simp only [List.set_cons_succ])
        (try simp only [List.set_cons_zero])
        refine wpAnyH_take (i := 13) (oi := _) (v := ?_) rfl (by kernel_rfl) (by kernel_rfl) (by kernel_rfl) (fun _ _ _ h => h) (Or.inl ⟨?_, ?_⟩) hH0 ?_
        rotate_left
        · kernel_rfl
        · (intro W' hSw; obtain ⟨⟨s0, s1, s2⟩, ⟨r0, r1, r2⟩, s5⟩ := hSw; go_simp; (try with_reducible rfl))
        (try simp only [List.getElem_toArray])
        (try simp only [List.getElem_cons_succ])
        (try simp only [List.getElem_cons_zero])
        (try simp only [Act.put])
        (try simp only [List.setIfInBounds_toArray])
        (try simp only [List.set_cons_succ])
        (try simp only [List.set_cons_zero])
        refine wpAnyH_take (i := 14) (oi := _) (v := ?_) rfl (by kernel_rfl) (by kernel_rfl) (by kernel_rfl) (fun _ _ _ h => h) (Or.inl ⟨?_, ?_⟩) hH0 ?_
        rotate_left
        · kernel_rfl
        · (intro W' hSw; obtain ⟨⟨s0, s1, s2⟩, ⟨r0, r1, r2⟩, s5⟩ := hSw; go_simp; (try with_reducible rfl))
        (try simp only [List.getElem_toArray])
        (try simp only [List.getElem_cons_succ])
        (try simp only [List.getElem_cons_zero])
        (try simp only [Act.put])
        (try simp only [List.setIfInBounds_toArray])
        (try simp only [List.set_cons_succ])
        (try simp only [List.set_cons_zero])
        refine wpAnyH_take (i := 15) (oi := _) (v := ?_) rfl (by kernel_rfl) (by kernel_rfl) (by kernel_rfl) (fun _ _ _ h => h) (Or.inl ⟨?_, ?_⟩) hH0 ?_
        rotate_left
        · kernel_rfl
        · (intro W' hSw; obtain ⟨⟨s0, s1, s2⟩, ⟨r0, r1, r2⟩, s5⟩ := hSw; go_simp; (try with_reducible rfl))
        (try simp only [List.getElem_toArray])
        (try simp only [List.getElem_cons_succ])
        (try simp only [List.getElem_cons_zero])
        (try simp only [Act.put])
        (try simp only [List.setIfInBounds_toArray])
        (try simp only [List.set_cons_succ])
        (try simp only [List.set_cons_zero])
        refine wpAnyH_take (i := 16) (oi := _) (v := ?_) rfl (by kernel_rfl) (by kernel_rfl) (by kernel_rfl) (fun _ _ _ h => h) (Or.inl ⟨?_, ?_⟩) hH0 ?_
        rotate_left
        · kernel_rfl
        · (intro W' hSw; obtain ⟨⟨s0, s1, s2⟩, ⟨r0, r1, r2⟩, s5⟩ := hSw; go_simp; (try with_reducible rfl))
        (try simp only [List.getElem_toArray])
        (try simp only [List.getElem_cons_succ])
        (try simp only [List.getElem_cons_zero])
        (try simp only [Act.put])
        (try simp only [List.setIfInBounds_toArray])
        (try simp only [List.set_cons_succ])
        (try simp only [List.set_cons_zero])
        refine wpAnyH_take (i := 17) (oi := _) (v := ?_) rfl (by kernel_rfl) (by kernel_rfl) (by kernel_rfl) (fun _ _ _ h => h) (Or.inl ⟨?_, ?_⟩) hH0 ?_
        rotate_left
        · kernel_rfl
        · (intro W' hSw; obtain ⟨⟨s0, s1, s2⟩, ⟨r0, r1, r2⟩, s5⟩ := hSw; go_simp; (try with_reducible rfl))
        (try simp only [List.getElem_toArray])
        (try simp only [List.getElem_cons_succ])
        (try simp only [List.getElem_cons_zero])
        (try simp only [Act.put])
        (try simp only [List.setIfInBounds_toArray])
        (try simp only [List.set_cons_succ])
        (try simp only [List.set_cons_zero])
        refine wpAnyH_take (i := 19) (oi := _) (v := ?_) rfl (by kernel_rfl) (by kernel_rfl) (by kernel_rfl) (fun _ _ _ h => h) (Or.inl ⟨?_, ?_⟩) hH0 ?_
        rotate_left
        · kernel_rfl
        · (intro W' hSw; obtain ⟨⟨s0, s1, s2⟩, ⟨r0, r1, r2⟩, s5⟩ := hSw; go_simp; (try with_reducible rfl))
        (try simp only [List.getElem_toArray])
        (try simp only [List.getElem_cons_succ])
        (try simp only [List.getElem_cons_zero])
        (try simp only [Act.put])
        (try simp only [List.setIfInBounds_toArray])
        (try simp only [List.set_cons_succ])
        (try simp only [List.set_cons_zero])
        refine wpAnyH_take (i := 20) (oi := _) (v := ?_) rfl (by kernel_rfl) (by kernel_rfl) (by kernel_rfl) (fun _ _ _ h => h) (Or.inl ⟨?_, ?_⟩) hH0 ?_
        rotate_left
        · kernel_rfl
        · (intro W' hSw; obtain ⟨⟨s0, s1, s2⟩, ⟨r0, r1, r2⟩, s5⟩ := hSw; go_simp; (try with_reducible rfl))
        (try simp only [List.getElem_toArray])
        (try simp only [List.getElem_cons_succ])
        (try simp only [List.getElem_cons_zero])
        (try simp only [Act.put])
        (try simp only [List.setIfInBounds_toArray])
        (try simp only [List.set_cons_succ])
        (try simp only [List.set_cons_zero])
        refine wpAnyH_take (i := 21) (oi := _) (v := ?_) rfl (by kernel_rfl) (by kernel_rfl) (by kernel_rfl) (fun _ _ _ h => h) (Or.inl ⟨?_, ?_⟩) hH0 ?_
        rotate_left
        · kernel_rfl
        · (intro W' hSw; obtain ⟨⟨s0, s1, s2⟩, ⟨r0, r1, r2⟩, s5⟩ := hSw; go_simp; (try with_reducible rfl))
        (try simp only [List.getElem_toArray])
        (try simp only [List.getElem_cons_succ])
        (try simp only [List.getElem_cons_zero])
        (try simp only [Act.put])
        (try simp only [List.setIfInBounds_toArray])
        (try simp only [List.set_cons_succ])
        (try simp only [List.set_cons_zero])
        refine wpAnyH_take (i := 22) (oi := _) (v := ?_) rfl (by kernel_rfl) (by kernel_rfl) (by kernel_rfl) (fun _ _ _ h => h) (Or.inl ⟨?_, ?_⟩) hH0 ?_
        rotate_left
        · kernel_rfl
        · (intro W' hSw; obtain ⟨⟨s0, s1, s2⟩, ⟨r0, r1, r2⟩, s5⟩ := hSw; go_simp; (try with_reducible rfl))
        (try simp only [List.getElem_toArray])
        (try simp only [List.getElem_cons_succ])
        (try simp only [List.getElem_cons_zero])
        (try simp only [Act.put])
        (try simp only [List.setIfInBounds_toArray])
        (try simp only [List.set_cons_succ])
        (try simp only [List.set_cons_zero])
        refine wpAnyH_take (i := 23) (oi := _) (v := ?_) rfl (by kernel_rfl) (by kernel_rfl) (by kernel_rfl) (fun _ _ _ h => h) (Or.inl ⟨?_, ?_⟩) hH0 ?_
        rotate_left
        · kernel_rfl
        · (intro W' hSw; obtain ⟨⟨s0, s1, s2⟩, ⟨r0, r1, r2⟩, s5⟩ := hSw; go_simp; (try with_reducible rfl))
        (try simp only [List.getElem_toArray])
        (try simp only [List.getElem_cons_succ])
        (try simp only [List.getElem_cons_zero])
        (try simp only [Act.put])
        (try simp only [List.setIfInBounds_toArray])
        (try simp only [List.set_cons_succ])
        (try simp only [List.set_cons_zero])
        refine wpAnyH_take (i := 26) (oi := _) (v := ?_) rfl (by kernel_rfl) (by kernel_rfl) (by kernel_rfl) (fun _ _ _ h => h) (Or.inl ⟨?_, ?_⟩) hH0 ?_
        rotate_left
        · kernel_rfl
        · (intro W' hSw; obtain ⟨⟨s0, s1, s2⟩, ⟨r0, r1, r2⟩, s5⟩ := hSw; go_simp; (try with_reducible rfl))
        (try simp only [List.getElem_toArray])
        (try simp only [List.getElem_cons_succ])
        (try simp only [List.getElem_cons_zero])
        (try simp only [Act.put])
        (try simp only [List.setIfInBounds_toArray])
        (try simp only [List.set_cons_succ])
        (try simp only [List.set_cons_zero])
        refine wpAnyH_ready (rs := [18]) (by kernel_rfl) (by simp) ?_
        refine AllReadyH.cons (o := _) rfl (fun K hK => ?_) AllReadyH.nil
        go_simp
        refine (C3.out _ (HC.out.keep hH0.2.2)).mono ?_
        rintro e W6 ⟨rfl, hk⟩
        refine hK.out _ _ (hH0.keep hk) (fun hH1 => ?_)
        clear hK K
        (try simp only [List.getElem_toArray])
        (try simp only [List.getElem_cons_succ])
        (try simp only [List.getElem_cons_zero])
        (try simp only [Act.put])
        (try simp only [List.setIfInBounds_toArray])
        (try simp only [List.set_cons_succ])
        (try simp only [List.set_cons_zero])
        refine wpAnyH_ready (rs := [24]) (by kernel_rfl) (by simp) ?_
        refine AllReadyH.cons (o := _) rfl (fun K hK => ?_) AllReadyH.nil
        go_simp
        refine (C4.out _ (HC.out.keep hH1.2.2)).mono ?_
        rintro e W7 ⟨rfl, hk2⟩
        refine hK.out _ _ (hH1.keep hk2) (fun hH2 => ?_)
        clear hK K
        (try simp only [List.getElem_toArray])
        (try simp only [List.getElem_cons_succ])
        (try simp only [List.getElem_cons_zero])
        (try simp only [Act.put])
        (try simp only [List.setIfInBounds_toArray])
        (try simp only [List.set_cons_succ])
        (try simp only [List.set_cons_zero])
        refine wpAnyH_take (i := 25) (oi := _) (v := ?_) rfl (by kernel_rfl) (by kernel_rfl) (by kernel_rfl) (fun _ _ _ h => h) (Or.inl ⟨?_, ?_⟩) hH2 ?_
        rotate_left
        · kernel_rfl
        · (intro W' hSw; obtain ⟨⟨s0, s1, s2⟩, ⟨r0, r1, r2⟩, s5⟩ := hSw; go_simp; (try with_reducible rfl))
        (try simp only [List.getElem_toArray])
        (try simp only [List.getElem_cons_succ])
        (try simp only [List.getElem_cons_zero])
        (try simp only [Act.put])
        (try simp only [List.setIfInBounds_toArray])
        (try simp only [List.set_cons_succ])
        (try simp only [List.set_cons_zero])
        refine wpAnyH_take (i := 27) (oi := _) (v := ?_) rfl (by kernel_rfl) (by kernel_rfl) (by kernel_rfl) (fun _ _ _ h => h) (Or.inl ⟨?_, ?_⟩) hH2 ?_
        rotate_left
        · kernel_rfl
        · (intro W' hSw; obtain ⟨⟨s0, s1, s2⟩, ⟨r0, r1, r2⟩, s5⟩ := hSw; go_simp; (try with_reducible rfl))
        (try simp only [List.getElem_toArray])
        (try simp only [List.getElem_cons_succ])
        (try simp only [List.getElem_cons_zero])
        (try simp only [Act.put])
        (try simp only [List.setIfInBounds_toArray])
        (try simp only [List.set_cons_succ])
        (try simp only [List.set_cons_zero])
        refine wpAnyH_take (i := 28) (oi := _) (v := ?_) rfl (by kernel_rfl) (by kernel_rfl) (by kernel_rfl) (fun _ _ _ h => h) (Or.inl ⟨?_, ?_⟩) hH2 ?_
        rotate_left
        · kernel_rfl
        · (intro W' hSw; obtain ⟨⟨s0, s1, s2⟩, ⟨r0, r1, r2⟩, s5⟩ := hSw; go_simp; (try with_reducible rfl))
        (try simp only [List.getElem_toArray])
        (try simp only [List.getElem_cons_succ])
        (try simp only [List.getElem_cons_zero])
        (try simp only [Act.put])
        (try simp only [List.setIfInBounds_toArray])
        (try simp only [List.set_cons_succ])
        (try simp only [List.set_cons_zero])
        refine wpAnyH_take (i := 29) (oi := _) (v := ?_) rfl (by kernel_rfl) (by kernel_rfl) (by kernel_rfl) (fun _ _ _ h => h) (Or.inl ⟨?_, ?_⟩) hH2 ?_
        rotate_left
        · kernel_rfl
        · (intro W' hSw; obtain ⟨⟨s0, s1, s2⟩, ⟨r0, r1, r2⟩, s5⟩ := hSw; go_simp; (try with_reducible rfl))
        (try simp only [List.getElem_toArray])
        (try simp only [List.getElem_cons_succ])
        (try simp only [List.getElem_cons_zero])
        (try simp only [Act.put])
        (try simp only [List.setIfInBounds_toArray])
        (try simp only [List.set_cons_succ])
        (try simp only [List.set_cons_zero])
        refine wpAnyH_ready (rs := [30]) (by kernel_rfl) (by simp) ?_
        refine AllReadyH.cons (o := _) rfl (fun K hK => ?_) AllReadyH.nil
        go_simp
        refine (live_any _ (HL.out.keep hH2.2.2)).mono ?_
        rintro e W8 ⟨rfl, hk3⟩
        refine hK.out _ _ (hH2.keep hk3) (fun hH3 => ?_)
        clear hK K
        (try simp only [List.getElem_toArray])
        (try simp only [List.getElem_cons_succ])
        (try simp only [List.getElem_cons_zero])
        (try simp only [Act.put])
        (try simp only [List.setIfInBounds_toArray])
        (try simp only [List.set_cons_succ])
        (try simp only [List.set_cons_zero])
        refine wpAnyH_take (i := 31) (oi := _) (v := ?_) rfl (by kernel_rfl) (by kernel_rfl) (by kernel_rfl) (fun _ _ _ h => h) (Or.inl ⟨?_, ?_⟩) hH3 ?_
        rotate_left
        · kernel_rfl
        · (intro W' hSw; obtain ⟨⟨s0, s1, s2⟩, ⟨r0, r1, r2⟩, s5⟩ := hSw; go_simp; (try with_reducible rfl))
        (try simp only [List.getElem_toArray])
        (try simp only [List.getElem_cons_succ])
        (try simp only [List.getElem_cons_zero])
        (try simp only [Act.put])
        (try simp only [List.setIfInBounds_toArray])
        (try simp only [List.set_cons_succ])
        (try simp only [List.set_cons_zero])
        refine wpAnyH_take (i := 32) (oi := _) (v := ?_) rfl (by kernel_rfl) (by kernel_rfl) (by kernel_rfl) (fun _ _ _ h => h) (Or.inl ⟨?_, ?_⟩) hH3 ?_
        rotate_left
        · kernel_rfl
        · (intro W' hSw; obtain ⟨⟨s0, s1, s2⟩, ⟨r0, r1, r2⟩, s5⟩ := hSw; go_simp; (try with_reducible rfl))
        (try simp only [List.getElem_toArray])
        (try simp only [List.getElem_cons_succ])
        (try simp only [List.getElem_cons_zero])
        (try simp only [Act.put])
        (try simp only [List.setIfInBounds_toArray])
        (try simp only [List.set_cons_succ])
        (try simp only [List.set_cons_zero])
        refine wpAnyH_done (by kernel_rfl) ?_ _
        have ZZ := hH3.2.2
        clear hk hk2 hk3 hH0 hH1 hH2 hH3
        go_wp2_with fail
        go_ret
        exact ⟨by first | rfl | simp, ZZ⟩
end Go.Proofs.YtgljaopnehdgdaaDoor
