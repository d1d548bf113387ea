/-
  The contract of the document's own Parse.
-/
import Derived.Test.YtfapcllhcbedlaaDoorRefDecB
import Derived.Test.YtfapcllhcbedlaaDoorRefT
import Derived.Test.YtfapcllhcbedlaaDoorParseMath
import Derived.Deep.RegionHeld3
namespace Go.Proofs.YtfapcllhcbedlaaDoor
open Go Go.RowKit Go.Lib WM

def PRel (s : ByteArray) (w w1 : World) (g : Nat) (v6 v7 : Value) (wr : World) : Prop :=
  ∃ k : Nat, k ≤ s.size ∧ g = s.size - k ∧ v7 = .int .i64 k ∧ v6 = .bool (fitsM (pv (s.data.toList.take k) : Nat)) ∧
    Own wr w1.heap.size (.int .u64 (mH (modM (pv (s.data.toList.take k) : Nat)))) (.int .u64 (mL (modM (pv (s.data.toList.take k) : Nat)))) ∧ Own wr w.heap.size (.int .i64 0) (.int .u64 0) ∧ Below w.heap.size w wr

theorem bytes_at (s : ByteArray) (p : UInt8 → Bool) (h : s.data.toList.all p = true) (j : Nat) (hj : j < s.size) : p s[j] = true := by
  rw [List.all_eq_true] at h
  apply h
  have e : s[j] = s.data.toList[j]'(by rw [Array.length_toList]; exact hj) := rfl
  rw [e]
  exact List.getElem_mem _

set_option maxRecDepth 100000 in
set_option maxHeartbeats 8000000 in
theorem rparse_any (s : ByteArray) (hs : s.size ≤ 1000000) (w : World) :
    Calls Tryd.prog 36 #[.string s] w fun e w' =>
      e = .returned (.tuple #[.agg #[.int .i64 (wH (pV s.data.toList)), .int .u64 (wL (pV s.data.toList))], .int .i64 (pE s.data.toList)]) ∧ Below w.heap.size w w' := by
  have DC := fun W => rdec_any s.size s rfl hs W
  cases hB : decB s.data.toList
  · obtain ⟨e1, e2⟩ := p_decB_no _ hB
    rw [e1, e2, w_zero.1, w_zero.2]
    simp only [hB] at DC
    have DC := Lib.hid DC
    clear hB e1 e2
    go_enter Tryd.func36, Tryd.ntmps36
    have R0 := Own.new w (.int .i64 0) (.int .u64 0) 24
    go_wp2_with fail
    refine (DC.out _).mono ?_
    rintro e w1 ⟨rfl, q1⟩
    have R1 := R0.keep q1
    have Z1 := btr (bal (bref w) _) q1
    clear R0 q1
    obtain ⟨r0, r1, r2, r3⟩ := R1
    go_wp2_with fail
    refine bodyPost_ret (v := .tuple #[.agg #[.int .i64 0, .int .u64 0], .int .i64 2]) (by simp [results, Tryd.results36, go_sem, r0, r1]) rfl ⟨rfl, ?_⟩
    (repeat (first | exact Z1 | refine bal ?_ _ | refine bset ?_ (by dsimp only; omega) _))
  · obtain ⟨p1, p2⟩ := p_decB_yes _ hB
    obtain ⟨c, t, hl, hneg, hall, hpv⟩ := decB_cases _ hB
    rw [← hpv] at p1 p2
    simp only [hB] at DC
    have DC := Lib.hid DC
    have hpos : 0 < s.size := by
      have : s.data.toList.length = s.size := by rw [Array.length_toList]; rfl
      rw [hl] at this; simp at this; omega
    obtain ⟨c', t', e1, e2, e3⟩ := bytes_head s hpos
    rw [hl] at e1
    injection e1 with e1 e1'
    subst e1 e1'
    obtain ⟨neg, hng⟩ : ∃ b, isNeg s.data.toList = b := ⟨_, rfl⟩
    have h1 : ((s[0].toNat : Int) == 45) = neg := by
      rw [← hng, hneg, e2, Bool.eq_iff_iff, beq_iff_eq, decide_eq_true_eq]
      constructor
      · intro h; exact UInt8.toNat_inj.1 (by rw [show (45 : UInt8).toNat = 45 from rfl]; omega)
      · intro h; rw [h]; rfl
    have hp : (0 : Int) < (s.size : Int) := by omega
    have hlen : s.data.toList.length = s.size := by rw [Array.length_toList]; rfl
    rw [hng] at p2
    have HP1 := Lib.hid p1; have HP2 := Lib.hid p2; have HALL := Lib.hid hall; have HLEN := Lib.hid hlen
    clear hB p1 p2 hl hneg hall hpv hng e2 e3 hlen
    go_enter Tryd.func36, Tryd.ntmps36
    have R0 := Own.new w (.int .i64 0) (.int .u64 0) 24
    go_wp2_with fail
    refine (DC.out _).mono ?_
    rintro e w1 ⟨rfl, q1⟩
    have R1 := R0.keep q1
    have Z1 := btr (bal (bref w) _) q1
    have s1 := R1.lt
    clear R0 q1 DC
    go_wp2_with fail
    clear h1
    go_loopg [6, 7] s.size (fun g v6 v7 wr => PRel s w w1 g v6 v7 wr)
    case atStart =>
      refine ⟨0, by omega, by omega, rfl, by rw [show ((pv (s.data.toList.take 0) : Nat) : Int) = 0 from rfl, fits0], ?_, R1.al _, bal Z1 _⟩
      have : ((pv (s.data.toList.take 0) : Nat) : Int) = 0 := rfl
      rw [this]
      exact Own.new _ _ _ _
    case round =>
      obtain ⟨k, hk, hg, rfl, rfl, hM, hR, hB⟩ := hrel
      obtain ⟨wo, rfl⟩ : ∃ wo : World, wo = wr := ⟨_, rfl⟩
      obtain ⟨V, hV⟩ : ∃ V : Int, ((pv (s.data.toList.take k) : Nat) : Int) = V := ⟨_, rfl⟩
      have hV0 : 0 ≤ V := by omega
      have HV := Lib.hid hV
      rw [hV] at hM
      simp only [hV]
      clear hV
      obtain ⟨m0, m1, m2, m3⟩ := hM
      have hM : Own wo w1.heap.size (.int .u64 (mH (modM V))) (.int .u64 (mL (modM V))) := ⟨m0, m1, m2, m3⟩
      by_cases hlt : k < s.size
      · have hlt' : (k : Int) < (s.size : Int) := by omega
        have hat := bytes_at s _ HALL.out k hlt
        by_cases h45 : (s[k].toNat : Int) = 45
        · have h2 : ((s[k].toNat : Int) == 45) = true := by simpa using h45
          have hc : s[k] = 45 := UInt8.toNat_inj.1 (by rw [show (45 : UInt8).toNat = 45 from rfl]; omega)
          have HC := Lib.hid hc
          clear hat h45 hc
          go_wp2_with fail
          go_roundg (s.size - (k + 1))
          case measure => omega
          case rel =>
            have e : pv (s.data.toList.take (k + 1)) = pv (s.data.toList.take k) := by rw [take_snoc s k hlt, pv_snoc, if_pos HC.out]
            exact ⟨k + 1, by omega, rfl, by go_num, by rw [e, HV.out], by rw [e, HV.out]; exact hM, hR, hB⟩
        · have h2 : ((s[k].toNat : Int) == 45) = false := by simpa using h45
          have hc : ¬ s[k] = 45 := by intro h; apply h45; rw [h]; rfl
          have hdg : dig s[k] = true := by
            have h3 : (s[k] == 45) = false := by rw [beq_eq_false_iff_ne]; exact hc
            rw [h3, Bool.false_or] at hat
            exact hat
          simp only [dig, decide_eq_true_eq] at hdg
          obtain ⟨d, hd⟩ : ∃ d : Nat, (s[k].toNat : Int) - 48 = (d : Int) := ⟨s[k].toNat - 48, by omega⟩
          have hd9 : (d : Int) ≤ 9 := by omega
          have hw8 : IntKind.u8.wrap ((s[k].toNat : Int) - 48) = (d : Int) := by rw [IntKind.wrap_u8]; omega
          have hw64 : IntKind.u64.wrap (d : Int) = (d : Int) := by rw [IntKind.wrap_u64]; omega
          have HD := Lib.hid hd; have HC := Lib.hid hc
          obtain ⟨u1, u2⟩ := modM_U V
          have T := fun W => rtimes_any (mH (modM V)) (mL (modM V)) 10 u1 u2 (by unfold U64; omega) W
          simp only [modM_mag, modM_ten] at T
          obtain ⟨u3, u4⟩ := modM_U (V * 10)
          have PL := fun W => rplus_any (mH (modM (V * 10))) (mL (modM (V * 10))) 0 (d : Int) u3 u4 (by unfold U64; omega) (by unfold U64; omega) W
          have e0d : val 0 (d : Int) = d := by unfold val; omega
          simp only [modM_mag, e0d, modM_add] at PL
          have F1 := fits_ten hV0
          have F2 := fits_more (p := V * 10) (m := (d : Int)) (by omega) (by omega)
          obtain ⟨G1, hG1⟩ : ∃ b, fitsM (modM V * 10) = b := ⟨_, rfl⟩
          obtain ⟨G2, hG2⟩ : ∃ b, fitsM (modM (V * 10) + (d : Int)) = b := ⟨_, rfl⟩
          simp only [hG1] at T F1
          simp only [hG2] at PL F2
          have T := Lib.hid T; have PL := Lib.hid PL; have F1 := Lib.hid F1; have F2 := Lib.hid F2
          clear hat h45 hc hd e0d hG1 hG2 u1 u2 u3 u4
          cases hfp : fitsM V
          · go_wp2_with fail
            refine (T.out _).mono ?_
            rintro e w2 ⟨rfl, q2⟩
            have M2 := (hM.keep q2).al (.cells #[.int .u64 (mH (modM (V * 10))), .int .u64 (mL (modM (V * 10)))] 60)
            have R2 := (hR.keep q2).al (.cells #[.int .u64 (mH (modM (V * 10))), .int .u64 (mL (modM (V * 10)))] 60)
            have X2 := Own.new w2 (.int .u64 (mH (modM (V * 10)))) (.int .u64 (mL (modM (V * 10)))) 60
            have B2 := bal (btr hB q2) (.cells #[.int .u64 (mH (modM (V * 10))), .int .u64 (mL (modM (V * 10)))] 60)
            have s2 : w1.heap.size < w2.heap.size := (hM.keep q2).lt
            have s2' : w.heap.size < w2.heap.size := (hR.keep q2).lt
            clear hM hR hB q2 m0 m1 m2 m3
            have XX := X2
            obtain ⟨x0, x1, x2, x3⟩ := XX
            go_wp2_with fail
            refine wp_region_held_drew (S := fun _ => True) (by kernel_rfl) trivial (fun hH0 => ?_)
            refine wpAnyH_take (i := 1) (oi := _) (v := ?_) rfl (by kernel_rfl) (by kernel_rfl) (by kernel_rfl) (fun _ _ _ h => h) (Or.inl ⟨?_, ?_⟩) hH0 ?_
            rotate_left
            · rfl
            · (intro w hSw; go_simp; (try with_reducible rfl))
            (try simp only [Act.put, List.getElem_toArray, List.getElem_cons_zero, List.getElem_cons_succ, List.setIfInBounds_toArray, List.set_cons_zero, List.set_cons_succ])
            refine wpAnyH_take (i := 2) (oi := _) (v := ?_) rfl (by kernel_rfl) (by kernel_rfl) (by kernel_rfl) (fun _ _ _ h => h) (Or.inl ⟨?_, ?_⟩) hH0 ?_
            rotate_left
            · rfl
            · (intro w hSw; go_simp; (try with_reducible rfl))
            (try simp only [Act.put, List.getElem_toArray, List.getElem_cons_zero, List.getElem_cons_succ, List.setIfInBounds_toArray, List.set_cons_zero, List.set_cons_succ])
            refine wpAnyH_take (i := 3) (oi := _) (v := ?_) rfl (by kernel_rfl) (by kernel_rfl) (by kernel_rfl) (fun _ _ _ h => h) (Or.inl ⟨?_, ?_⟩) hH0 ?_
            rotate_left
            · rfl
            · (intro w hSw; go_simp; (try with_reducible rfl))
            (try simp only [Act.put, List.getElem_toArray, List.getElem_cons_zero, List.getElem_cons_succ, List.setIfInBounds_toArray, List.set_cons_zero, List.set_cons_succ])
            refine wpAnyH_take (i := 4) (oi := _) (v := ?_) rfl (by kernel_rfl) (by kernel_rfl) (by kernel_rfl) (fun _ _ _ h => h) (Or.inl ⟨?_, ?_⟩) hH0 ?_
            rotate_left
            · rfl
            · (intro w hSw; go_simp; (try with_reducible rfl))
            (try simp only [Act.put, List.getElem_toArray, List.getElem_cons_zero, List.getElem_cons_succ, List.setIfInBounds_toArray, List.set_cons_zero, List.set_cons_succ])
            refine wpAnyH_take (i := 5) (oi := _) (v := ?_) rfl (by kernel_rfl) (by kernel_rfl) (by kernel_rfl) (fun _ _ _ h => h) (Or.inl ⟨?_, ?_⟩) hH0 ?_
            rotate_left
            · rfl
            · (intro w hSw; go_simp; (try with_reducible rfl))
            (try simp only [Act.put, List.getElem_toArray, List.getElem_cons_zero, List.getElem_cons_succ, List.setIfInBounds_toArray, List.set_cons_zero, List.set_cons_succ])
            refine wpAnyH_take (i := 6) (oi := _) (v := ?_) rfl (by kernel_rfl) (by kernel_rfl) (by kernel_rfl) (fun _ _ _ h => h) (Or.inl ⟨?_, ?_⟩) hH0 ?_
            rotate_left
            · rfl
            · (intro w hSw; go_simp; (try with_reducible rfl))
            (try simp only [Act.put, List.getElem_toArray, List.getElem_cons_zero, List.getElem_cons_succ, List.setIfInBounds_toArray, List.set_cons_zero, List.set_cons_succ])
            refine wpAnyH_ready (rs := [0]) (by kernel_rfl) (by simp) ?_
            refine AllReadyH.cons (o := _) rfl (fun K hK => ?_) AllReadyH.nil
            go_simp
            refine hK.out _ _ trivial (fun hH1 => ?_)
            clear hK K
            (try simp only [Act.put, List.getElem_toArray, List.getElem_cons_zero, List.getElem_cons_succ, List.setIfInBounds_toArray, List.set_cons_zero, List.set_cons_succ])
            refine wpAnyH_ready (rs := [7]) (by kernel_rfl) (by simp) ?_
            refine AllReadyH.cons (o := _) rfl (fun K hK => ?_) AllReadyH.nil
            go_simp
            refine (PL.out _).mono ?_
            rintro e w3 ⟨rfl, q3⟩
            have M3 := M2.dr.keep q3
            have R3 := R2.dr.keep q3
            have X3 := X2.dr.keep q3
            have B3 := btr (bdr B2) q3
            have s3 := X3.lt
            clear M2 R2 X2 B2 q3 x0 x1 x2 x3
            have XX := X3
            obtain ⟨x0, x1, x2, x3⟩ := XX
            have MX := M3
            obtain ⟨m0, m1, m2, m3⟩ := MX
            try go_wp2_with fail
            refine hK.out _ _ trivial (fun hH2 => ?_)
            clear hK K
            (try simp only [Act.put, List.getElem_toArray, List.getElem_cons_zero, List.getElem_cons_succ, List.setIfInBounds_toArray, List.set_cons_zero, List.set_cons_succ])
            refine wpAnyH_take (i := 8) (oi := _) (v := ?_) rfl (by kernel_rfl) (by kernel_rfl) (by kernel_rfl) (fun _ _ _ h => h) (Or.inl ⟨?_, ?_⟩) hH2 ?_
            rotate_left
            · rfl
            · (intro w hSw; go_simp; (try with_reducible rfl))
            (try simp only [Act.put, List.getElem_toArray, List.getElem_cons_zero, List.getElem_cons_succ, List.setIfInBounds_toArray, List.set_cons_zero, List.set_cons_succ])
            refine wpAnyH_take (i := 9) (oi := _) (v := ?_) rfl (by kernel_rfl) (by kernel_rfl) (by kernel_rfl) (fun _ _ _ h => h) (Or.inl ⟨?_, ?_⟩) hH2 ?_
            rotate_left
            · rfl
            · (intro w hSw; go_simp; (try with_reducible rfl))
            (try simp only [Act.put, List.getElem_toArray, List.getElem_cons_zero, List.getElem_cons_succ, List.setIfInBounds_toArray, List.set_cons_zero, List.set_cons_succ])
            refine wpAnyH_take (i := 10) (oi := _) (v := ?_) rfl (by kernel_rfl) (by kernel_rfl) (by kernel_rfl) (fun _ _ _ h => h) (Or.inl ⟨?_, ?_⟩) hH2 ?_
            rotate_left
            · rfl
            · (intro w hSw; go_simp; (try with_reducible rfl))
            (try simp only [Act.put, List.getElem_toArray, List.getElem_cons_zero, List.getElem_cons_succ, List.setIfInBounds_toArray, List.set_cons_zero, List.set_cons_succ])
            refine wpAnyH_ready (rs := [11]) (by kernel_rfl) (by simp) ?_
            refine AllReadyH.cons (o := _) rfl (fun K hK => ?_) AllReadyH.nil
            go_simp
            refine hK.out _ _ trivial (fun hH3 => ?_)
            clear hK K
            (try simp only [Act.put, List.getElem_toArray, List.getElem_cons_zero, List.getElem_cons_succ, List.setIfInBounds_toArray, List.set_cons_zero, List.set_cons_succ])
            refine wpAnyH_take (i := 12) (oi := _) (v := ?_) rfl (by kernel_rfl) (by kernel_rfl) (by kernel_rfl) (fun _ _ _ h => h) (Or.inl ⟨?_, ?_⟩) hH3 ?_
            rotate_left
            · rfl
            · (intro w hSw; go_simp; (try with_reducible rfl))
            (try simp only [Act.put, List.getElem_toArray, List.getElem_cons_zero, List.getElem_cons_succ, List.setIfInBounds_toArray, List.set_cons_zero, List.set_cons_succ])
            refine wpAnyH_done (by kernel_rfl) ?_ _
            go_wp2_with fail
            go_roundg (s.size - (k + 1))
            case measure => omega
            case rel =>
              have e : ((pv (s.data.toList.take (k + 1)) : Nat) : Int) = V * 10 + (d : Int) := by
                have h3 := HV.out
                have h4 := HD.out
                rw [take_snoc s k hlt, pv_snoc, if_neg HC.out]
                omega
              refine ⟨k + 1, by omega, rfl, by go_num, ?_, ?_, ?_, ?_⟩
              · rw [e, ← F2.out, ← F1.out]; simp [*]
              · rw [e]; exact ((M3.far (by dsimp only; omega) _).far (by dsimp only; omega) _).put _ _
              · exact (((R3.far (by dsimp only; omega) _).far (by dsimp only; omega) _).far (by dsimp only; omega) _).far (by dsimp only; omega) _
              · exact bset (bset (bset (bset B3 (by dsimp only; omega) _) (by dsimp only; omega) _) (by dsimp only; omega) _) (by dsimp only; omega) _
          · cases G1
            · go_wp2_with fail
              refine (T.out _).mono ?_
              rintro e w2 ⟨rfl, q2⟩
              have M2 := (hM.keep q2).al (.cells #[.int .u64 (mH (modM (V * 10))), .int .u64 (mL (modM (V * 10)))] 60)
              have R2 := (hR.keep q2).al (.cells #[.int .u64 (mH (modM (V * 10))), .int .u64 (mL (modM (V * 10)))] 60)
              have X2 := Own.new w2 (.int .u64 (mH (modM (V * 10)))) (.int .u64 (mL (modM (V * 10)))) 60
              have B2 := bal (btr hB q2) (.cells #[.int .u64 (mH (modM (V * 10))), .int .u64 (mL (modM (V * 10)))] 60)
              have s2 : w1.heap.size < w2.heap.size := (hM.keep q2).lt
              have s2' : w.heap.size < w2.heap.size := (hR.keep q2).lt
              clear hM hR hB q2 m0 m1 m2 m3
              have XX := X2
              obtain ⟨x0, x1, x2, x3⟩ := XX
              go_wp2_with fail
              refine wp_region_held_drew (S := fun _ => True) (by kernel_rfl) trivial (fun hH0 => ?_)
              refine wpAnyH_take (i := 1) (oi := _) (v := ?_) rfl (by kernel_rfl) (by kernel_rfl) (by kernel_rfl) (fun _ _ _ h => h) (Or.inl ⟨?_, ?_⟩) hH0 ?_
              rotate_left
              · rfl
              · (intro w hSw; go_simp; (try with_reducible rfl))
              (try simp only [Act.put, List.getElem_toArray, List.getElem_cons_zero, List.getElem_cons_succ, List.setIfInBounds_toArray, List.set_cons_zero, List.set_cons_succ])
              refine wpAnyH_take (i := 2) (oi := _) (v := ?_) rfl (by kernel_rfl) (by kernel_rfl) (by kernel_rfl) (fun _ _ _ h => h) (Or.inl ⟨?_, ?_⟩) hH0 ?_
              rotate_left
              · rfl
              · (intro w hSw; go_simp; (try with_reducible rfl))
              (try simp only [Act.put, List.getElem_toArray, List.getElem_cons_zero, List.getElem_cons_succ, List.setIfInBounds_toArray, List.set_cons_zero, List.set_cons_succ])
              refine wpAnyH_take (i := 3) (oi := _) (v := ?_) rfl (by kernel_rfl) (by kernel_rfl) (by kernel_rfl) (fun _ _ _ h => h) (Or.inl ⟨?_, ?_⟩) hH0 ?_
              rotate_left
              · rfl
              · (intro w hSw; go_simp; (try with_reducible rfl))
              (try simp only [Act.put, List.getElem_toArray, List.getElem_cons_zero, List.getElem_cons_succ, List.setIfInBounds_toArray, List.set_cons_zero, List.set_cons_succ])
              refine wpAnyH_take (i := 4) (oi := _) (v := ?_) rfl (by kernel_rfl) (by kernel_rfl) (by kernel_rfl) (fun _ _ _ h => h) (Or.inl ⟨?_, ?_⟩) hH0 ?_
              rotate_left
              · rfl
              · (intro w hSw; go_simp; (try with_reducible rfl))
              (try simp only [Act.put, List.getElem_toArray, List.getElem_cons_zero, List.getElem_cons_succ, List.setIfInBounds_toArray, List.set_cons_zero, List.set_cons_succ])
              refine wpAnyH_take (i := 5) (oi := _) (v := ?_) rfl (by kernel_rfl) (by kernel_rfl) (by kernel_rfl) (fun _ _ _ h => h) (Or.inl ⟨?_, ?_⟩) hH0 ?_
              rotate_left
              · rfl
              · (intro w hSw; go_simp; (try with_reducible rfl))
              (try simp only [Act.put, List.getElem_toArray, List.getElem_cons_zero, List.getElem_cons_succ, List.setIfInBounds_toArray, List.set_cons_zero, List.set_cons_succ])
              refine wpAnyH_take (i := 6) (oi := _) (v := ?_) rfl (by kernel_rfl) (by kernel_rfl) (by kernel_rfl) (fun _ _ _ h => h) (Or.inl ⟨?_, ?_⟩) hH0 ?_
              rotate_left
              · rfl
              · (intro w hSw; go_simp; (try with_reducible rfl))
              (try simp only [Act.put, List.getElem_toArray, List.getElem_cons_zero, List.getElem_cons_succ, List.setIfInBounds_toArray, List.set_cons_zero, List.set_cons_succ])
              refine wpAnyH_ready (rs := [0]) (by kernel_rfl) (by simp) ?_
              refine AllReadyH.cons (o := _) rfl (fun K hK => ?_) AllReadyH.nil
              go_simp
              refine hK.out _ _ trivial (fun hH1 => ?_)
              clear hK K
              (try simp only [Act.put, List.getElem_toArray, List.getElem_cons_zero, List.getElem_cons_succ, List.setIfInBounds_toArray, List.set_cons_zero, List.set_cons_succ])
              refine wpAnyH_ready (rs := [7]) (by kernel_rfl) (by simp) ?_
              refine AllReadyH.cons (o := _) rfl (fun K hK => ?_) AllReadyH.nil
              go_simp
              refine (PL.out _).mono ?_
              rintro e w3 ⟨rfl, q3⟩
              have M3 := M2.dr.keep q3
              have R3 := R2.dr.keep q3
              have X3 := X2.dr.keep q3
              have B3 := btr (bdr B2) q3
              have s3 := X3.lt
              clear M2 R2 X2 B2 q3 x0 x1 x2 x3
              have XX := X3
              obtain ⟨x0, x1, x2, x3⟩ := XX
              have MX := M3
              obtain ⟨m0, m1, m2, m3⟩ := MX
              try go_wp2_with fail
              refine hK.out _ _ trivial (fun hH2 => ?_)
              clear hK K
              (try simp only [Act.put, List.getElem_toArray, List.getElem_cons_zero, List.getElem_cons_succ, List.setIfInBounds_toArray, List.set_cons_zero, List.set_cons_succ])
              refine wpAnyH_take (i := 8) (oi := _) (v := ?_) rfl (by kernel_rfl) (by kernel_rfl) (by kernel_rfl) (fun _ _ _ h => h) (Or.inl ⟨?_, ?_⟩) hH2 ?_
              rotate_left
              · rfl
              · (intro w hSw; go_simp; (try with_reducible rfl))
              (try simp only [Act.put, List.getElem_toArray, List.getElem_cons_zero, List.getElem_cons_succ, List.setIfInBounds_toArray, List.set_cons_zero, List.set_cons_succ])
              refine wpAnyH_take (i := 9) (oi := _) (v := ?_) rfl (by kernel_rfl) (by kernel_rfl) (by kernel_rfl) (fun _ _ _ h => h) (Or.inl ⟨?_, ?_⟩) hH2 ?_
              rotate_left
              · rfl
              · (intro w hSw; go_simp; (try with_reducible rfl))
              (try simp only [Act.put, List.getElem_toArray, List.getElem_cons_zero, List.getElem_cons_succ, List.setIfInBounds_toArray, List.set_cons_zero, List.set_cons_succ])
              refine wpAnyH_take (i := 10) (oi := _) (v := ?_) rfl (by kernel_rfl) (by kernel_rfl) (by kernel_rfl) (fun _ _ _ h => h) (Or.inl ⟨?_, ?_⟩) hH2 ?_
              rotate_left
              · rfl
              · (intro w hSw; go_simp; (try with_reducible rfl))
              (try simp only [Act.put, List.getElem_toArray, List.getElem_cons_zero, List.getElem_cons_succ, List.setIfInBounds_toArray, List.set_cons_zero, List.set_cons_succ])
              refine wpAnyH_ready (rs := [11]) (by kernel_rfl) (by simp) ?_
              refine AllReadyH.cons (o := _) rfl (fun K hK => ?_) AllReadyH.nil
              go_simp
              refine hK.out _ _ trivial (fun hH3 => ?_)
              clear hK K
              (try simp only [Act.put, List.getElem_toArray, List.getElem_cons_zero, List.getElem_cons_succ, List.setIfInBounds_toArray, List.set_cons_zero, List.set_cons_succ])
              refine wpAnyH_take (i := 12) (oi := _) (v := ?_) rfl (by kernel_rfl) (by kernel_rfl) (by kernel_rfl) (fun _ _ _ h => h) (Or.inl ⟨?_, ?_⟩) hH3 ?_
              rotate_left
              · rfl
              · (intro w hSw; go_simp; (try with_reducible rfl))
              (try simp only [Act.put, List.getElem_toArray, List.getElem_cons_zero, List.getElem_cons_succ, List.setIfInBounds_toArray, List.set_cons_zero, List.set_cons_succ])
              refine wpAnyH_done (by kernel_rfl) ?_ _
              go_wp2_with fail
              go_roundg (s.size - (k + 1))
              case measure => omega
              case rel =>
                have e : ((pv (s.data.toList.take (k + 1)) : Nat) : Int) = V * 10 + (d : Int) := by
                  have h3 := HV.out
                  have h4 := HD.out
                  rw [take_snoc s k hlt, pv_snoc, if_neg HC.out]
                  omega
                refine ⟨k + 1, by omega, rfl, by go_num, ?_, ?_, ?_, ?_⟩
                · rw [e, ← F2.out, ← F1.out]; simp [*]
                · rw [e]; exact ((M3.far (by dsimp only; omega) _).far (by dsimp only; omega) _).put _ _
                · exact (((R3.far (by dsimp only; omega) _).far (by dsimp only; omega) _).far (by dsimp only; omega) _).far (by dsimp only; omega) _
                · exact bset (bset (bset (bset B3 (by dsimp only; omega) _) (by dsimp only; omega) _) (by dsimp only; omega) _) (by dsimp only; omega) _
            · go_wp2_with fail
              refine (T.out _).mono ?_
              rintro e w2 ⟨rfl, q2⟩
              have M2 := (hM.keep q2).al (.cells #[.int .u64 (mH (modM (V * 10))), .int .u64 (mL (modM (V * 10)))] 60)
              have R2 := (hR.keep q2).al (.cells #[.int .u64 (mH (modM (V * 10))), .int .u64 (mL (modM (V * 10)))] 60)
              have X2 := Own.new w2 (.int .u64 (mH (modM (V * 10)))) (.int .u64 (mL (modM (V * 10)))) 60
              have B2 := bal (btr hB q2) (.cells #[.int .u64 (mH (modM (V * 10))), .int .u64 (mL (modM (V * 10)))] 60)
              have s2 : w1.heap.size < w2.heap.size := (hM.keep q2).lt
              have s2' : w.heap.size < w2.heap.size := (hR.keep q2).lt
              clear hM hR hB q2 m0 m1 m2 m3
              have XX := X2
              obtain ⟨x0, x1, x2, x3⟩ := XX
              go_wp2_with fail
              refine wp_region_held_drew (S := fun _ => True) (by kernel_rfl) trivial (fun hH0 => ?_)
              refine wpAnyH_take (i := 1) (oi := _) (v := ?_) rfl (by kernel_rfl) (by kernel_rfl) (by kernel_rfl) (fun _ _ _ h => h) (Or.inl ⟨?_, ?_⟩) hH0 ?_
              rotate_left
              · rfl
              · (intro w hSw; go_simp; (try with_reducible rfl))
              (try simp only [Act.put, List.getElem_toArray, List.getElem_cons_zero, List.getElem_cons_succ, List.setIfInBounds_toArray, List.set_cons_zero, List.set_cons_succ])
              refine wpAnyH_take (i := 2) (oi := _) (v := ?_) rfl (by kernel_rfl) (by kernel_rfl) (by kernel_rfl) (fun _ _ _ h => h) (Or.inl ⟨?_, ?_⟩) hH0 ?_
              rotate_left
              · rfl
              · (intro w hSw; go_simp; (try with_reducible rfl))
              (try simp only [Act.put, List.getElem_toArray, List.getElem_cons_zero, List.getElem_cons_succ, List.setIfInBounds_toArray, List.set_cons_zero, List.set_cons_succ])
              refine wpAnyH_take (i := 3) (oi := _) (v := ?_) rfl (by kernel_rfl) (by kernel_rfl) (by kernel_rfl) (fun _ _ _ h => h) (Or.inl ⟨?_, ?_⟩) hH0 ?_
              rotate_left
              · rfl
              · (intro w hSw; go_simp; (try with_reducible rfl))
              (try simp only [Act.put, List.getElem_toArray, List.getElem_cons_zero, List.getElem_cons_succ, List.setIfInBounds_toArray, List.set_cons_zero, List.set_cons_succ])
              refine wpAnyH_take (i := 4) (oi := _) (v := ?_) rfl (by kernel_rfl) (by kernel_rfl) (by kernel_rfl) (fun _ _ _ h => h) (Or.inl ⟨?_, ?_⟩) hH0 ?_
              rotate_left
              · rfl
              · (intro w hSw; go_simp; (try with_reducible rfl))
              (try simp only [Act.put, List.getElem_toArray, List.getElem_cons_zero, List.getElem_cons_succ, List.setIfInBounds_toArray, List.set_cons_zero, List.set_cons_succ])
              refine wpAnyH_take (i := 5) (oi := _) (v := ?_) rfl (by kernel_rfl) (by kernel_rfl) (by kernel_rfl) (fun _ _ _ h => h) (Or.inl ⟨?_, ?_⟩) hH0 ?_
              rotate_left
              · rfl
              · (intro w hSw; go_simp; (try with_reducible rfl))
              (try simp only [Act.put, List.getElem_toArray, List.getElem_cons_zero, List.getElem_cons_succ, List.setIfInBounds_toArray, List.set_cons_zero, List.set_cons_succ])
              refine wpAnyH_take (i := 6) (oi := _) (v := ?_) rfl (by kernel_rfl) (by kernel_rfl) (by kernel_rfl) (fun _ _ _ h => h) (Or.inl ⟨?_, ?_⟩) hH0 ?_
              rotate_left
              · rfl
              · (intro w hSw; go_simp; (try with_reducible rfl))
              (try simp only [Act.put, List.getElem_toArray, List.getElem_cons_zero, List.getElem_cons_succ, List.setIfInBounds_toArray, List.set_cons_zero, List.set_cons_succ])
              refine wpAnyH_ready (rs := [0]) (by kernel_rfl) (by simp) ?_
              refine AllReadyH.cons (o := _) rfl (fun K hK => ?_) AllReadyH.nil
              go_simp
              refine hK.out _ _ trivial (fun hH1 => ?_)
              clear hK K
              (try simp only [Act.put, List.getElem_toArray, List.getElem_cons_zero, List.getElem_cons_succ, List.setIfInBounds_toArray, List.set_cons_zero, List.set_cons_succ])
              refine wpAnyH_ready (rs := [7]) (by kernel_rfl) (by simp) ?_
              refine AllReadyH.cons (o := _) rfl (fun K hK => ?_) AllReadyH.nil
              go_simp
              refine (PL.out _).mono ?_
              rintro e w3 ⟨rfl, q3⟩
              have M3 := M2.dr.keep q3
              have R3 := R2.dr.keep q3
              have X3 := X2.dr.keep q3
              have B3 := btr (bdr B2) q3
              have s3 := X3.lt
              clear M2 R2 X2 B2 q3 x0 x1 x2 x3
              have XX := X3
              obtain ⟨x0, x1, x2, x3⟩ := XX
              have MX := M3
              obtain ⟨m0, m1, m2, m3⟩ := MX
              try go_wp2_with fail
              refine hK.out _ _ trivial (fun hH2 => ?_)
              clear hK K
              (try simp only [Act.put, List.getElem_toArray, List.getElem_cons_zero, List.getElem_cons_succ, List.setIfInBounds_toArray, List.set_cons_zero, List.set_cons_succ])
              refine wpAnyH_take (i := 8) (oi := _) (v := ?_) rfl (by kernel_rfl) (by kernel_rfl) (by kernel_rfl) (fun _ _ _ h => h) (Or.inl ⟨?_, ?_⟩) hH2 ?_
              rotate_left
              · rfl
              · (intro w hSw; go_simp; (try with_reducible rfl))
              (try simp only [Act.put, List.getElem_toArray, List.getElem_cons_zero, List.getElem_cons_succ, List.setIfInBounds_toArray, List.set_cons_zero, List.set_cons_succ])
              refine wpAnyH_take (i := 9) (oi := _) (v := ?_) rfl (by kernel_rfl) (by kernel_rfl) (by kernel_rfl) (fun _ _ _ h => h) (Or.inl ⟨?_, ?_⟩) hH2 ?_
              rotate_left
              · rfl
              · (intro w hSw; go_simp; (try with_reducible rfl))
              (try simp only [Act.put, List.getElem_toArray, List.getElem_cons_zero, List.getElem_cons_succ, List.setIfInBounds_toArray, List.set_cons_zero, List.set_cons_succ])
              refine wpAnyH_take (i := 10) (oi := _) (v := ?_) rfl (by kernel_rfl) (by kernel_rfl) (by kernel_rfl) (fun _ _ _ h => h) (Or.inl ⟨?_, ?_⟩) hH2 ?_
              rotate_left
              · rfl
              · (intro w hSw; go_simp; (try with_reducible rfl))
              (try simp only [Act.put, List.getElem_toArray, List.getElem_cons_zero, List.getElem_cons_succ, List.setIfInBounds_toArray, List.set_cons_zero, List.set_cons_succ])
              refine wpAnyH_ready (rs := [11]) (by kernel_rfl) (by simp) ?_
              refine AllReadyH.cons (o := _) rfl (fun K hK => ?_) AllReadyH.nil
              go_simp
              refine hK.out _ _ trivial (fun hH3 => ?_)
              clear hK K
              (try simp only [Act.put, List.getElem_toArray, List.getElem_cons_zero, List.getElem_cons_succ, List.setIfInBounds_toArray, List.set_cons_zero, List.set_cons_succ])
              refine wpAnyH_take (i := 12) (oi := _) (v := ?_) rfl (by kernel_rfl) (by kernel_rfl) (by kernel_rfl) (fun _ _ _ h => h) (Or.inl ⟨?_, ?_⟩) hH3 ?_
              rotate_left
              · rfl
              · (intro w hSw; go_simp; (try with_reducible rfl))
              (try simp only [Act.put, List.getElem_toArray, List.getElem_cons_zero, List.getElem_cons_succ, List.setIfInBounds_toArray, List.set_cons_zero, List.set_cons_succ])
              refine wpAnyH_done (by kernel_rfl) ?_ _
              go_wp2_with fail
              go_roundg (s.size - (k + 1))
              case measure => omega
              case rel =>
                have e : ((pv (s.data.toList.take (k + 1)) : Nat) : Int) = V * 10 + (d : Int) := by
                  have h3 := HV.out
                  have h4 := HD.out
                  rw [take_snoc s k hlt, pv_snoc, if_neg HC.out]
                  omega
                refine ⟨k + 1, by omega, rfl, by go_num, ?_, ?_, ?_, ?_⟩
                · rw [e, ← F2.out, ← F1.out]; simp [*]
                · rw [e]; exact ((M3.far (by dsimp only; omega) _).far (by dsimp only; omega) _).put _ _
                · exact (((R3.far (by dsimp only; omega) _).far (by dsimp only; omega) _).far (by dsimp only; omega) _).far (by dsimp only; omega) _
                · exact bset (bset (bset (bset B3 (by dsimp only; omega) _) (by dsimp only; omega) _) (by dsimp only; omega) _) (by dsimp only; omega) _
      · have hk1 : k = s.size := by omega
        subst hk1
        have hVs : ((pv s.data.toList : Nat) : Int) = V := by
          rw [← HV.out, List.take_of_length_le (by rw [HLEN.out]; omega)]
        have P1 := HP1.out; have P2 := HP2.out
        rw [hVs] at P1 P2
        obtain ⟨u1, u2⟩ := modM_U V
        have J := fun W => rjoin_any neg (mH (modM V)) (mL (modM V)) u1 u2 W
        simp only [modM_mag] at J
        have hFF : (fitsM V = false ∧ pE s.data.toList = 6 ∧ pV s.data.toList = 0) ∨ (fitsM V = true ∧ inW (signed neg (modM V)) = false ∧ pE s.data.toList = 6 ∧ wH (pV s.data.toList) = 0 ∧ wL (pV s.data.toList) = 0) ∨ (fitsM V = true ∧ inW (signed neg (modM V)) = true ∧ jH neg (modM V) = wH (pV s.data.toList) ∧ jL neg (modM V) = wL (pV s.data.toList) ∧ pE s.data.toList = 0) := by
          cases hf : fitsM V
          · exact Or.inl ⟨rfl, P1 hf⟩
          · obtain ⟨a1, a2⟩ := P2 hf
            rw [modM_fits hV0 hf]
            cases hi : inW (signed neg V)
            · exact Or.inr (Or.inl ⟨rfl, rfl, by rw [a1, wE_out hi], by rw [a2, wH_out hi], by rw [a2, wL_out hi]⟩)
            · have hlt2 : V < 340282366920938463463374607431768211456 := by simpa only [fitsM, decide_eq_true_eq] using hf
              obtain ⟨j1, j2⟩ := j_fits hV0 hlt2 hi
              exact Or.inr (Or.inr ⟨rfl, rfl, by rw [a2, j1], by rw [a2, j2], by rw [a1, wE_in hi]⟩)
        obtain ⟨FP, hFP⟩ : ∃ b, fitsM V = b := ⟨_, rfl⟩
        obtain ⟨JV, hJV⟩ : ∃ b, inW (signed neg (modM V)) = b := ⟨_, rfl⟩
        obtain ⟨JH, hJH⟩ : ∃ b, jH neg (modM V) = b := ⟨_, rfl⟩
        obtain ⟨JL, hJL⟩ : ∃ b, jL neg (modM V) = b := ⟨_, rfl⟩
        simp only [hJV, hJH, hJL] at J
        rw [hFP, hJV, hJH, hJL] at hFF
        simp only [hFP]
        have J := Lib.hid J
        clear hFP hJV hJH hJL P1 P2 hVs u1 u2 hlt
        rcases hFF with ⟨rfl, a1, a2⟩ | ⟨rfl, rfl, a1, a2, a3⟩ | ⟨rfl, rfl, rfl, rfl, a1⟩
        · have E1 := Lib.hid a1; have E2 := Lib.hid a2
          clear a1 a2
          go_wp2_with fail
          refine (J.out _).mono ?_
          rintro e w4 ⟨rfl, q4⟩
          have R4 := hR.keep q4
          have Z4 := btr hB q4
          have s4 := R4.lt
          clear hR hB hM q4 m0 m1 m2 m3
          obtain ⟨r0, r1, r2, r3⟩ := R4
          go_wp2_with fail
          refine bodyPost_ret (v := .tuple #[.agg #[.int .i64 0, .int .u64 0], .int .i64 6]) (by simp [results, Tryd.results36, go_sem, r0, r1, s4]) rfl ⟨by rw [E1.out, E2.out, w_zero.1, w_zero.2], ?_⟩
          (repeat (first | exact Z4 | refine bal ?_ _ | refine bset ?_ (by dsimp only; omega) _))
        · have E1 := Lib.hid a1; have E2 := Lib.hid a2; have E3 := Lib.hid a3
          clear a1 a2 a3
          go_wp2_with fail
          refine (J.out _).mono ?_
          rintro e w4 ⟨rfl, q4⟩
          have R4 := hR.keep q4
          have Z4 := btr hB q4
          have s4 := R4.lt
          clear hR hB hM q4 m0 m1 m2 m3
          obtain ⟨r0, r1, r2, r3⟩ := R4
          go_wp2_with fail
          refine bodyPost_ret (v := .tuple #[.agg #[.int .i64 0, .int .u64 0], .int .i64 6]) (by simp [results, Tryd.results36, go_sem, r0, r1, s4]) rfl ⟨by rw [E1.out, E2.out, E3.out], ?_⟩
          (repeat (first | exact Z4 | refine bal ?_ _ | refine bset ?_ (by dsimp only; omega) _))
        · have E1 := Lib.hid a1
          clear a1
          go_wp2_with fail
          refine (J.out _).mono ?_
          rintro e w4 ⟨rfl, q4⟩
          have R4 := hR.keep q4
          have Z4 := btr hB q4
          have s4 := R4.lt
          clear hR hB hM q4 m0 m1 m2 m3
          obtain ⟨r0, r1, r2, r3⟩ := R4
          go_wp2_with fail
          refine bodyPost_ret (v := .tuple #[.agg #[.int .i64 (wH (pV s.data.toList)), .int .u64 (wL (pV s.data.toList))], .int .i64 0]) (by simp [results, Tryd.results36, go_sem, r0, r1, s4]) rfl ⟨by rw [E1.out], ?_⟩
          (repeat (first | exact Z4 | refine bal ?_ _ | refine bset ?_ (by dsimp only; omega) _))
end Go.Proofs.YtfapcllhcbedlaaDoor
