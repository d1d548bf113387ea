/-
  The contract of package wide's readDigits.
-/
import Derived.Test.YtjhfbnndapopgaaDoorWalkC
import Derived.Test.YtjhfbnndapopgaaDoorMath
import Derived.WalkMore
import Derived.Deep.LoopGhost
import Derived.Deep.DeepCutAuto
import Derived.Deep.CutBlock
namespace Go.Proofs.YtjhfbnndapopgaaDoor
open Go Go.RowKit Go.Lib WM

theorem Own.put {W : World} {b : Nat} {x y : Value} (h : Own W b x y) (x' y' : Value) : Own ((W.setCell ⟨b, 0, none⟩ x').setCell ⟨b, 1, none⟩ y') b x' y' := by
  obtain ⟨h0, h1, h2, h3⟩ := h
  refine ⟨?_, ?_, ?_, ?_⟩
  · rw [World.cell?_setCell_other _ _ _ _ (by simp)]
    exact World.cell?_setCell_same _ _ _ h0
  · exact World.cell?_setCell_same _ _ _ ((World.cell?_setCell_other _ _ _ _ (by simp)).trans h1)
  · exact (World.frozen?_setCell _ _ _ _).trans ((World.frozen?_setCell _ _ _ _).trans h2)
  · exact (World.frozen?_setCell _ _ _ _).trans ((World.frozen?_setCell _ _ _ _).trans h3)

set_option maxHeartbeats 4000000 in
theorem read_any (s : ByteArray) (hs : s.size ≤ 1000000) (w : World) :
    Calls Tryd.prog 69 #[.string s] w fun e w' =>
      e = .returned (.tuple #[.agg #[.int .u64 (mH (rdVal s.data.toList)), .int .u64 (mL (rdVal s.data.toList))], .int .i64 (rdErr s.data.toList)]) ∧ Below w.heap.size w w' := by
  have hlen : s.data.toList.length = s.size := by rw [Array.length_toList]; rfl
  have HLEN := Lib.hid hlen
  clear hlen
  have R0 := (Own.new w (.int .u64 0) (.int .u64 0) 53).al (.cells #[.int .u64 0, .int .u64 0] 53)
  have M0 := Own.new2 w (.cells #[.int .u64 0, .int .u64 0] 53) (.int .u64 0) (.int .u64 0) 53
  go_enter Tryd.func69, Tryd.ntmps69
  go_wp2
  go_step3
  go_wp2
  go_step3
  go_upto_block 0 with fail
  go_cut [5, 6] (fun v5 v6 wx => ∃ j : Nat, j ≤ s.size ∧ v6 = .int .i64 j ∧ Own wx w.heap.size (.int .u64 0) (.int .u64 0) ∧ Below w.heap.size w wx ∧
    ((∃ h : j < s.size, dig s[j] = false) ∨ (j = s.size ∧ allDig s.data.toList = true ∧ v5 = .bool (fitsM (dval s.data.toList)) ∧ Own wx (w.heap.size + 1) (.int .u64 (mH (keepM (dval s.data.toList)))) (.int .u64 (mL (keepM (dval s.data.toList)))))))
  case first =>
    go_wp2
    go_loopg [5, 6] s.size (fun g v5 v6 wr => ∃ k : Nat, k ≤ s.size ∧ g = s.size - k ∧ v6 = .int .i64 k ∧ allDig (s.data.toList.take k) = true ∧ v5 = .bool (fitsM (dval (s.data.toList.take k))) ∧ Own wr w.heap.size (.int .u64 0) (.int .u64 0) ∧ Own wr (w.heap.size + 1) (.int .u64 (mH (keepM (dval (s.data.toList.take k))))) (.int .u64 (mL (keepM (dval (s.data.toList.take k))))) ∧ Below w.heap.size w wr)
    case atStart =>
      obtain ⟨f0, f1, f2⟩ := start0 s.data.toList
      exact ⟨0, by omega, rfl, rfl, rfl, by rw [f0], R0, by rw [f1, f2]; exact M0, bal (bal (bref _) _) _⟩
    case round =>
      obtain ⟨k, hk, hg, rfl, hall, rfl, hR, hM, hB⟩ := hrel
      have HA := Lib.hid hall
      clear hall
      obtain ⟨wo, rfl⟩ : ∃ wo : World, wo = wr := ⟨_, rfl⟩
      obtain ⟨V, hV⟩ : ∃ V : Nat, dval (s.data.toList.take k) = V := ⟨_, rfl⟩
      rw [hV] at hM
      simp only [hV]
      have HV := Lib.hid hV
      clear hV
      by_cases hlt : k < s.size
      · obtain ⟨E, hE⟩ : ∃ E : Nat, min ((k : Int) + 19) (s.size : Int) = (E : Int) := ⟨min (k + 19) s.size, by omega⟩
        have hE1 : k < E := by omega
        have hE2 : E ≤ s.size := by omega
        have hE3 : E ≤ k + 19 := by omega
        have hE4 : E = k + 19 ∨ E = s.size := by omega
        go_wp2
        clear hE
        go_loopg [6, 7, 8, 10] (E - k) (fun g v6 v7 v8 _ wx => wo = wx ∧ ∃ j : Nat, k ≤ j ∧ j ≤ E ∧ g = E - j ∧ v6 = .int .i64 j ∧ allDig (s.data.toList.take j) = true ∧ v7 = .int .u64 (dval ((s.data.toList.take j).drop k) : Nat) ∧ v8 = .int .u64 (10 ^ (j - k) : Nat))
        case atStart => exact ⟨rfl, k, by omega, by omega, rfl, rfl, HA.out, by rw [List.drop_of_length_le (by rw [List.length_take]; omega)]; rfl, by rw [Nat.sub_self]; rfl⟩
        case round =>
          obtain ⟨rfl, j, hj1, hj2, hg2, rfl, hall2, rfl, rfl⟩ := hrel
          have hbl : dval ((s.data.toList.take j).drop k) < 10 ^ (j - k) := by
            have h1 := dval_lt ((s.data.toList.take j).drop k) (allDig_drop _ _ hall2)
            have h2 : ((s.data.toList.take j).drop k).length = j - k := by rw [List.length_drop, List.length_take, HLEN.out]; omega
            rwa [h2] at h1
          obtain ⟨b, hb⟩ : ∃ b, dval ((s.data.toList.take j).drop k) = b := ⟨_, rfl⟩
          obtain ⟨p, hp⟩ : ∃ p, 10 ^ (j - k) = p := ⟨_, rfl⟩
          rw [hb, hp] at hbl
          simp only [hb, hp]
          have HA2 := Lib.hid hall2; have HB := Lib.hid hb; have HP := Lib.hid hp
          clear hall2 hb hp
          by_cases hjE : j < E
          · have hp18 : p ≤ 1000000000000000000 := by rw [← HP.out]; exact pow10_le18 (by omega)
            have hjs : j < s.size := by omega
            go_wp2
            · have h1 : 57 < (s[j].toNat : Int) := by omega
              go_meet
              exact ⟨j, by omega, rfl, hR, hB, Or.inl ⟨hjs, by simp only [dig, decide_eq_false_iff_not]; omega⟩⟩
            · have h1 : 48 ≤ (s[j].toNat : Int) ∧ (s[j].toNat : Int) ≤ 57 := by assumption
              go_roundg (E - (j + 1))
              case measure => omega
              case rel =>
                have hdj : dig s[j] = true := by simp only [dig, decide_eq_true_eq]; exact h1
                have e1 : allDig (s.data.toList.take (j + 1)) = true := by rw [take_snoc s j hjs, allDig_snoc, HA2.out, hdj]; rfl
                have e2 : dval ((s.data.toList.take (j + 1)).drop k) = b * 10 + (s[j].toNat - 48) := by rw [drop_take_snoc s k j hj1 hjs, dval_snoc, HB.out]
                have e3 : 10 ^ (j + 1 - k) = p * 10 := by rw [show j + 1 - k = (j - k) + 1 by omega, Nat.pow_succ, HP.out]
                refine ⟨rfl, j + 1, by omega, by omega, rfl, rfl, e1, ?_, ?_⟩
                · rw [e2]; congr 1; omega
                · rw [e3]; congr 1
            · have h1 : (s[j].toNat : Int) < 48 := by assumption
              go_meet
              exact ⟨j, by omega, rfl, hR, hB, Or.inl ⟨hjs, by simp only [dig, decide_eq_false_iff_not]; omega⟩⟩
          · have e : j = E := by omega
            subst e
            have hp19 : p ≤ 10000000000000000000 := by rw [← HP.out]; exact pow10_le (by omega)
            have hstep : dval (s.data.toList.take j) = V * p + b := by
              rw [block_step s.data.toList k j hj1 (by rw [HLEN.out]; exact hE2), HV.out, HP.out, HB.out]
            have HST := Lib.hid hstep
            clear hstep
            cases hf : fitsM (V : Int)
            · have hf2 : fitsM (dval (s.data.toList.take j)) = false := by
                rw [HST.out]
                refine fits_mono (a := V) ?_ hf
                have : V * 1 ≤ V * p := Nat.mul_le_mul_left V (by rw [← HP.out]; exact Nat.pow_pos (by decide))
                omega
              have HF2 := Lib.hid hf2
              clear hf2
              rw [keepM_no hf] at hM
              go_wp2
              go_roundg (s.size - j)
              case measure => omega
              case rel => exact ⟨j, by omega, rfl, rfl, HA2.out, by rw [HF2.out], hR, by rw [keepM_no HF2.out]; exact hM, hB⟩
            · rw [keepM_yes hf] at hM
              have hVb : (V : Int) < 340282366920938463463374607431768211456 := by simpa only [fitsM, decide_eq_true_eq] using hf
              have T := fun W => times_any (mH V) (mL V) p b (mH_U64 (by omega) hVb) (mL_U64 _) (by unfold U64; omega) (by unfold U64; omega) W
              have eST : (V : Int) * p + b = ((dval (s.data.toList.take j) : Nat) : Int) := by rw [HST.out, Int.natCast_add, Int.natCast_mul]
              simp only [val_mag, eST] at T
              have T := Lib.hid T
              obtain ⟨m0, m1, m2, m3⟩ := hM
              have hM : Own wo (w.heap.size + 1) (.int .u64 (mH V)) (.int .u64 (mL V)) := ⟨m0, m1, m2, m3⟩
              clear eST
              go_wp2_with fail
              refine (T.out _).mono ?_
              rintro e w1 ⟨rfl, hb1⟩
              have R1 := hR.keep hb1
              have M1 := hM.keep hb1
              have B1 := btr hB hb1
              have s1 := M1.lt
              have hsz := hB.size
              clear hR hM hB hb1 m0 m1 m2 m3
              obtain ⟨m0, m1, m2, m3⟩ := M1
              have M1 : Own w1 (w.heap.size + 1) (.int .u64 (mH V)) (.int .u64 (mL V)) := ⟨m0, m1, m2, m3⟩
              go_wp2
              go_roundg (s.size - j)
              case measure => omega
              case rel => exact ⟨j, by omega, rfl, rfl, HA2.out, rfl, (R1.far (by simp) _).far (by simp) _, M1.put _ _, bset (bset B1 (by simp) _) (by simp) _⟩
      · have e : k = s.size := by omega
        subst e
        go_wp2
        go_meet
        have ht : s.data.toList.take s.size = s.data.toList := List.take_of_length_le (by rw [HLEN.out]; omega)
        have hv := HV.out
        have ha := HA.out
        rw [ht] at hv ha
        exact ⟨s.size, by omega, rfl, hR, hB, Or.inr ⟨rfl, ha, by rw [hv], by rw [hv]; exact hM⟩⟩
  case rest =>
    obtain ⟨j, hj, rfl, hR, hB, hcase⟩ := hcut
    have hsz := hB.size
    have hlt := hR.lt
    rcases hcase with ⟨hjs, hd⟩ | ⟨rfl, hall, rfl, hM⟩
    · obtain ⟨e1, e2⟩ := rd_bad s j hjs hd
      have E1 := Lib.hid e1; have E2 := Lib.hid e2
      clear e1 e2 hd
      obtain ⟨r0, r1, r2, r3⟩ := hR
      go_wp2
      rw [Exit.noGoto_ret]
      refine bodyPost_ret (v := .tuple #[.agg #[.int .u64 0, .int .u64 0], .int .i64 2]) (by simp [results, Tryd.results69, go_sem, r0, r1]) rfl ⟨by rw [E1.out, E2.out]; rfl, bset (bset hB (by simp) _) (by simp) _⟩
    · cases hf : fitsM (dval s.data.toList : Int)
      · obtain ⟨e1, e2⟩ := rd_over s.data.toList hall hf
        have E1 := Lib.hid e1; have E2 := Lib.hid e2
        clear e1 e2 hall
        obtain ⟨r0, r1, r2, r3⟩ := hR
        go_wp2
        rw [Exit.noGoto_ret]
        refine bodyPost_ret (v := .tuple #[.agg #[.int .u64 0, .int .u64 0], .int .i64 6]) (by simp [results, Tryd.results69, go_sem, r0, r1]) rfl ⟨by rw [E1.out, E2.out]; rfl, bset (bset hB (by simp) _) (by simp) _⟩
      · obtain ⟨e1, e2⟩ := rd_ok s.data.toList hall hf
        have E1 := Lib.hid e1; have E2 := Lib.hid e2
        rw [keepM_yes hf] at hM
        clear e1 e2 hall
        obtain ⟨r0, r1, r2, r3⟩ := hR
        obtain ⟨m0, m1, m2, m3⟩ := hM
        go_wp2
        rw [Exit.noGoto_ret]
        refine bodyPost_ret (v := .tuple #[.agg #[.int .u64 (mH (dval s.data.toList : Int)), .int .u64 (mL (dval s.data.toList : Int))], .int .i64 0]) (by simp [results, Tryd.results69, go_sem, r0, r1]) rfl ⟨by rw [E1.out, E2.out], bset (bset hB (by simp) _) (by simp) _⟩
end Go.Proofs.YtjhfbnndapopgaaDoor
