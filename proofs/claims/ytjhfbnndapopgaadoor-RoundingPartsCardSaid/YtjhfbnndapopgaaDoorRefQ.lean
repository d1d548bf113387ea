/-
  The contract of the document's own division of magnitudes.
-/
import Derived.Test.YtjhfbnndapopgaaDoorRefC
import Derived.Test.YtjhfbnndapopgaaDoorMath
import Derived.WalkMore
import Derived.Deep.LoopGhost
namespace Go.Proofs.YtjhfbnndapopgaaDoor
open Go Go.RowKit WM

/-- What holds at the head of each round: k bits of the number are read. -/
def QRel (M N : Int) (w : World) (g : Nat) (v7 v8 : Value) (wr : World) : Prop :=
  ∃ (k : Nat) (m q r : Int), k ≤ 128 ∧ g = 128 - k ∧ v8 = .int .i64 k ∧ v7 = .int .u64 r ∧ DivAt M N k m q r ∧
    Own wr (w.heap.size + 1 + 1) (.int .u64 (mH q)) (.int .u64 (mL q)) ∧ Own wr w.heap.size (.int .u64 (mH m)) (.int .u64 (mL m)) ∧ Own wr (w.heap.size + 1) (.int .u64 0) (.int .u64 0) ∧ Below w.heap.size w wr

theorem top_bit {m : Int} (h : 0 ≤ m ∧ m < 340282366920938463463374607431768211456) : (9223372036854775808 ≤ mH m) ↔ 170141183460469231731687303715884105728 ≤ m := by
  unfold mH; omega
theorem q_low {q : Int} : mH (2 * q + 1) = mH (2 * q) ∧ mL (2 * q + 1) = mL (2 * q) + 1 ∧ mL (2 * q) + 1 ≤ 18446744073709551615 := by
  unfold mH mL; omega

set_option maxRecDepth 100000 in
set_option maxHeartbeats 8000000 in
theorem rquot_any (h l N : Int) (hh : U64 h) (hl : U64 l) (hN : 1 ≤ N) (hN2 : N ≤ 9223372036854775807) (w : World) :
    Calls Tryd.prog 61 #[.agg #[.int .u64 h, .int .u64 l], .int .u64 N] w fun e w' =>
      e = .returned (.tuple #[.agg #[.int .u64 (mH (val h l / N)), .int .u64 (mL (val h l / N))], .int .u64 (val h l % N)]) ∧ Below w.heap.size w w' := by
  obtain ⟨M, hMv⟩ : ∃ M, val h l = M := ⟨_, rfl⟩
  have hM0 : 0 ≤ M ∧ M < 340282366920938463463374607431768211456 := by rw [← hMv]; exact mag_bd hh hl
  have hmh : mH M = h ∧ mL M = l := by rw [← hMv]; exact mag_val hl
  have HMH := Lib.hid hmh
  have HM0 := Lib.hid hM0
  rw [hMv]
  clear hMv hM0 hmh
  go_enter Tryd.func61, Tryd.ntmps61
  go_wp2_with fail
  go_loopg [7, 8] 128 (fun g v7 v8 wr => QRel M N w g v7 v8 wr)
  case atStart =>
    refine ⟨0, M, 0, 0, by omega, rfl, rfl, rfl, div_at_start HM0.out hN, ?_, ?_, ?_, ?_⟩
    · refine ⟨?_, ?_, ?_, ?_⟩ <;> simp [go_sem, mH, mL]
    · rw [HMH.out.1, HMH.out.2]; refine ⟨?_, ?_, ?_, ?_⟩ <;> simp [go_sem]
    · refine ⟨?_, ?_, ?_, ?_⟩ <;> simp [go_sem]
    · repeat (first | exact bref _ | refine bal ?_ _)
  case round =>
    obtain ⟨k, m, q, r, hk, hg, rfl, rfl, hD, hQ, hM, hR, hB⟩ := hrel
    obtain ⟨wo, rfl⟩ : ∃ wo : World, wo = wr := ⟨_, rfl⟩
    have HD := Lib.hid hD
    have hr0 := hD.r0
    have hm0 := hD.m0
    have hq0 := hD.q0
    obtain ⟨m0, m1, m2, m3⟩ := hM
    have hM : Own wo w.heap.size (.int .u64 (mH m)) (.int .u64 (mL m)) := ⟨m0, m1, m2, m3⟩
    by_cases hlt : k < 128
    · have hq1 := div_at_q hD hN hlt
      have hqb : 0 ≤ 2 * q ∧ 2 * q < 340282366920938463463374607431768211456 := by omega
      have M1 := fun W => rshifted_any (mH m) (mL m) (mH_U64 hm0.1 hm0.2) (mL_U64 _) W
      simp only [val_mag] at M1
      have Q1 := fun W => rshifted_any (mH q) (mL q) (mH_U64 hq0 (by omega)) (mL_U64 _) W
      have hqm : modM (2 * q) = 2 * q := by unfold modM; omega
      simp only [val_mag, hqm] at Q1
      obtain ⟨G1, hG1⟩ : ∃ b, fitsM (2 * m) = b := ⟨_, rfl⟩
      obtain ⟨G2, hG2⟩ : ∃ b, fitsM (2 * q) = b := ⟨_, rfl⟩
      simp only [hG1] at M1
      simp only [hG2] at Q1
      have M1 := Lib.hid M1; have Q1 := Lib.hid Q1
      have hx := u64_top (mH m) (mH_U64 hm0.1 hm0.2)
      have ht := top_bit hm0
      have HHM0 := Lib.hid hm0; have HQ0 := Lib.hid hq0; have HQ1 := Lib.hid hq1; have HQB := Lib.hid hqb
      clear hD hqm hG1 hG2 hq1 hqb hm0 hq0
      have e1 : IntKind.u64.wrap (r * 2) = 2 * r := by rw [IntKind.wrap_u64]; omega
      by_cases hb : 9223372036854775808 ≤ mH m
      · rw [if_pos hb] at hx
        have HB2 := Lib.hid (ht.1 hb)
        clear ht
        by_cases hge : N ≤ 2 * r + 1
        · go_wp2_with fail
          refine (M1.out _).mono ?_
          rintro e w1 ⟨rfl, q1⟩
          have MA := (hM.keep q1).put (.int .u64 (mH (modM (2 * m)))) (.int .u64 (mL (modM (2 * m))))
          have RA := ((hR.keep q1).far (p := ⟨w.heap.size, 0, none⟩) (by dsimp only; omega) (.int .u64 (mH (modM (2 * m))))).far (p := ⟨w.heap.size, 1, none⟩) (by dsimp only; omega) (.int .u64 (mL (modM (2 * m))))
          have QA := ((hQ.keep q1).far (p := ⟨w.heap.size, 0, none⟩) (by dsimp only; omega) (.int .u64 (mH (modM (2 * m))))).far (p := ⟨w.heap.size, 1, none⟩) (by dsimp only; omega) (.int .u64 (mL (modM (2 * m))))
          have BA := bset (bset (btr hB q1) (p := ⟨w.heap.size, 0, none⟩) (by dsimp only; omega) (.int .u64 (mH (modM (2 * m))))) (p := ⟨w.heap.size, 1, none⟩) (by dsimp only; omega) (.int .u64 (mL (modM (2 * m))))
          have MX := hM.keep q1
          have QX := hQ.keep q1
          clear hM hR hQ hB q1 m0 m1 m2 m3
          obtain ⟨m0, m1, m2, m3⟩ := MX
          obtain ⟨q0, q1, q2, q3⟩ := QX
          go_wp2_with fail
          refine (Q1.out _).mono ?_
          rintro e w2 ⟨rfl, p2⟩
          have MB := MA.keep p2
          have RB := RA.keep p2
          have QB := QA.keep p2
          have BB := btr BA p2
          clear MA RA QA BA p2 m0 m1 m2 m3 q0 q1 q2 q3
          obtain ⟨q0, q1, q2, q3⟩ := QB
          have QB : Own w2 (w.heap.size + 1 + 1) (.int .u64 (mH q)) (.int .u64 (mL q)) := ⟨q0, q1, q2, q3⟩
          go_wp2_with fail
          go_roundg (128 - (k + 1))
          case measure => omega
          case rel =>
            have hst := div_at_step HD.out 1 (by rw [if_pos HB2.out])
            have h2 := hst.2 hge
            refine ⟨k + 1, modM (2 * m), 2 * q + 1, 2 * r + 1 - N, by omega, rfl, by go_num, ?_, h2, ?_, ?_, ?_, ?_⟩
            · first | rfl | (rw [IntKind.wrap_u64]; congr 1; omega)
            · obtain ⟨l1, l2, l3⟩ := q_low (q := q)
              have hu : U64 (mL (2 * q)) := mL_U64 _
              have hw1 : IntKind.u64.wrap (mL (2 * q) + 1) = mL (2 * q + 1) := by rw [IntKind.wrap_u64, l2]; unfold U64 at hu; omega
              rw [l1]
              have QC := QB.put (.int .u64 (mH (2 * q))) (.int .u64 (mL (2 * q)))
              obtain ⟨c0, c1, c2, c3⟩ := QC
              refine ⟨?_, ?_, ?_, ?_⟩
              · exact (World.cell?_setCell_other _ _ _ _ (by simp)).trans c0
              · rw [← hw1]; exact World.cell?_setCell_same _ _ _ c1
              · exact (World.frozen?_setCell _ _ _ _).trans c2
              · exact (World.frozen?_setCell _ _ _ _).trans c3
            · exact ((MB.far (by dsimp only; omega) _).far (by dsimp only; omega) _).far (by dsimp only; omega) _
            · exact ((RB.far (by dsimp only; omega) _).far (by dsimp only; omega) _).far (by dsimp only; omega) _
            · exact bset (bset (bset BB (by dsimp only; omega) _) (by dsimp only; omega) _) (by dsimp only; omega) _
        · have hlt2 : 2 * r + 1 < N := by omega
          clear hge
          go_wp2_with fail
          refine (M1.out _).mono ?_
          rintro e w1 ⟨rfl, q1⟩
          have MA := (hM.keep q1).put (.int .u64 (mH (modM (2 * m)))) (.int .u64 (mL (modM (2 * m))))
          have RA := ((hR.keep q1).far (p := ⟨w.heap.size, 0, none⟩) (by dsimp only; omega) (.int .u64 (mH (modM (2 * m))))).far (p := ⟨w.heap.size, 1, none⟩) (by dsimp only; omega) (.int .u64 (mL (modM (2 * m))))
          have QA := ((hQ.keep q1).far (p := ⟨w.heap.size, 0, none⟩) (by dsimp only; omega) (.int .u64 (mH (modM (2 * m))))).far (p := ⟨w.heap.size, 1, none⟩) (by dsimp only; omega) (.int .u64 (mL (modM (2 * m))))
          have BA := bset (bset (btr hB q1) (p := ⟨w.heap.size, 0, none⟩) (by dsimp only; omega) (.int .u64 (mH (modM (2 * m))))) (p := ⟨w.heap.size, 1, none⟩) (by dsimp only; omega) (.int .u64 (mL (modM (2 * m))))
          have MX := hM.keep q1
          have QX := hQ.keep q1
          clear hM hR hQ hB q1 m0 m1 m2 m3
          obtain ⟨m0, m1, m2, m3⟩ := MX
          obtain ⟨q0, q1, q2, q3⟩ := QX
          go_wp2_with fail
          refine (Q1.out _).mono ?_
          rintro e w2 ⟨rfl, p2⟩
          have MB := MA.keep p2
          have RB := RA.keep p2
          have QB := QA.keep p2
          have BB := btr BA p2
          clear MA RA QA BA p2 m0 m1 m2 m3 q0 q1 q2 q3
          obtain ⟨q0, q1, q2, q3⟩ := QB
          have QB : Own w2 (w.heap.size + 1 + 1) (.int .u64 (mH q)) (.int .u64 (mL q)) := ⟨q0, q1, q2, q3⟩
          go_wp2_with fail
          go_roundg (128 - (k + 1))
          case measure => omega
          case rel =>
            have hst := div_at_step HD.out 1 (by rw [if_pos HB2.out])
            have h2 := hst.1 (by omega)
            refine ⟨k + 1, modM (2 * m), 2 * q, 2 * r + 1, by omega, rfl, by go_num, ?_, h2, ?_, ?_, ?_, ?_⟩
            · first | rfl | (rw [IntKind.wrap_u64]; congr 1; omega)
            · exact QB.put _ _
            · exact (MB.far (by dsimp only; omega) _).far (by dsimp only; omega) _
            · exact (RB.far (by dsimp only; omega) _).far (by dsimp only; omega) _
            · exact bset (bset BB (by dsimp only; omega) _) (by dsimp only; omega) _
      · rw [if_neg hb] at hx
        have HB2 := Lib.hid (fun h => hb (ht.2 h))
        clear ht
        by_cases hge : N ≤ 2 * r
        · go_wp2_with fail
          refine (M1.out _).mono ?_
          rintro e w1 ⟨rfl, q1⟩
          have MA := (hM.keep q1).put (.int .u64 (mH (modM (2 * m)))) (.int .u64 (mL (modM (2 * m))))
          have RA := ((hR.keep q1).far (p := ⟨w.heap.size, 0, none⟩) (by dsimp only; omega) (.int .u64 (mH (modM (2 * m))))).far (p := ⟨w.heap.size, 1, none⟩) (by dsimp only; omega) (.int .u64 (mL (modM (2 * m))))
          have QA := ((hQ.keep q1).far (p := ⟨w.heap.size, 0, none⟩) (by dsimp only; omega) (.int .u64 (mH (modM (2 * m))))).far (p := ⟨w.heap.size, 1, none⟩) (by dsimp only; omega) (.int .u64 (mL (modM (2 * m))))
          have BA := bset (bset (btr hB q1) (p := ⟨w.heap.size, 0, none⟩) (by dsimp only; omega) (.int .u64 (mH (modM (2 * m))))) (p := ⟨w.heap.size, 1, none⟩) (by dsimp only; omega) (.int .u64 (mL (modM (2 * m))))
          have MX := hM.keep q1
          have QX := hQ.keep q1
          clear hM hR hQ hB q1 m0 m1 m2 m3
          obtain ⟨m0, m1, m2, m3⟩ := MX
          obtain ⟨q0, q1, q2, q3⟩ := QX
          go_wp2_with fail
          refine (Q1.out _).mono ?_
          rintro e w2 ⟨rfl, p2⟩
          have MB := MA.keep p2
          have RB := RA.keep p2
          have QB := QA.keep p2
          have BB := btr BA p2
          clear MA RA QA BA p2 m0 m1 m2 m3 q0 q1 q2 q3
          obtain ⟨q0, q1, q2, q3⟩ := QB
          have QB : Own w2 (w.heap.size + 1 + 1) (.int .u64 (mH q)) (.int .u64 (mL q)) := ⟨q0, q1, q2, q3⟩
          go_wp2_with fail
          go_roundg (128 - (k + 1))
          case measure => omega
          case rel =>
            have hst := div_at_step HD.out 0 (by rw [if_neg HB2.out])
            rw [Int.add_zero] at hst
            have h2 := hst.2 hge
            refine ⟨k + 1, modM (2 * m), 2 * q + 1, 2 * r - N, by omega, rfl, by go_num, ?_, h2, ?_, ?_, ?_, ?_⟩
            · first | rfl | (rw [IntKind.wrap_u64]; congr 1; omega)
            · obtain ⟨l1, l2, l3⟩ := q_low (q := q)
              have hu : U64 (mL (2 * q)) := mL_U64 _
              have hw1 : IntKind.u64.wrap (mL (2 * q) + 1) = mL (2 * q + 1) := by rw [IntKind.wrap_u64, l2]; unfold U64 at hu; omega
              rw [l1]
              have QC := QB.put (.int .u64 (mH (2 * q))) (.int .u64 (mL (2 * q)))
              obtain ⟨c0, c1, c2, c3⟩ := QC
              refine ⟨?_, ?_, ?_, ?_⟩
              · exact (World.cell?_setCell_other _ _ _ _ (by simp)).trans c0
              · rw [← hw1]; exact World.cell?_setCell_same _ _ _ c1
              · exact (World.frozen?_setCell _ _ _ _).trans c2
              · exact (World.frozen?_setCell _ _ _ _).trans c3
            · exact ((MB.far (by dsimp only; omega) _).far (by dsimp only; omega) _).far (by dsimp only; omega) _
            · exact ((RB.far (by dsimp only; omega) _).far (by dsimp only; omega) _).far (by dsimp only; omega) _
            · exact bset (bset (bset BB (by dsimp only; omega) _) (by dsimp only; omega) _) (by dsimp only; omega) _
        · have hlt2 : 2 * r < N := by omega
          clear hge
          go_wp2_with fail
          refine (M1.out _).mono ?_
          rintro e w1 ⟨rfl, q1⟩
          have MA := (hM.keep q1).put (.int .u64 (mH (modM (2 * m)))) (.int .u64 (mL (modM (2 * m))))
          have RA := ((hR.keep q1).far (p := ⟨w.heap.size, 0, none⟩) (by dsimp only; omega) (.int .u64 (mH (modM (2 * m))))).far (p := ⟨w.heap.size, 1, none⟩) (by dsimp only; omega) (.int .u64 (mL (modM (2 * m))))
          have QA := ((hQ.keep q1).far (p := ⟨w.heap.size, 0, none⟩) (by dsimp only; omega) (.int .u64 (mH (modM (2 * m))))).far (p := ⟨w.heap.size, 1, none⟩) (by dsimp only; omega) (.int .u64 (mL (modM (2 * m))))
          have BA := bset (bset (btr hB q1) (p := ⟨w.heap.size, 0, none⟩) (by dsimp only; omega) (.int .u64 (mH (modM (2 * m))))) (p := ⟨w.heap.size, 1, none⟩) (by dsimp only; omega) (.int .u64 (mL (modM (2 * m))))
          have MX := hM.keep q1
          have QX := hQ.keep q1
          clear hM hR hQ hB q1 m0 m1 m2 m3
          obtain ⟨m0, m1, m2, m3⟩ := MX
          obtain ⟨q0, q1, q2, q3⟩ := QX
          go_wp2_with fail
          refine (Q1.out _).mono ?_
          rintro e w2 ⟨rfl, p2⟩
          have MB := MA.keep p2
          have RB := RA.keep p2
          have QB := QA.keep p2
          have BB := btr BA p2
          clear MA RA QA BA p2 m0 m1 m2 m3 q0 q1 q2 q3
          obtain ⟨q0, q1, q2, q3⟩ := QB
          have QB : Own w2 (w.heap.size + 1 + 1) (.int .u64 (mH q)) (.int .u64 (mL q)) := ⟨q0, q1, q2, q3⟩
          go_wp2_with fail
          go_roundg (128 - (k + 1))
          case measure => omega
          case rel =>
            have hst := div_at_step HD.out 0 (by rw [if_neg HB2.out])
            rw [Int.add_zero] at hst
            have h2 := hst.1 (by omega)
            refine ⟨k + 1, modM (2 * m), 2 * q, 2 * r, by omega, rfl, by go_num, ?_, h2, ?_, ?_, ?_, ?_⟩
            · first | rfl | (rw [IntKind.wrap_u64]; congr 1; omega)
            · exact QB.put _ _
            · exact (MB.far (by dsimp only; omega) _).far (by dsimp only; omega) _
            · exact (RB.far (by dsimp only; omega) _).far (by dsimp only; omega) _
            · exact bset (bset BB (by dsimp only; omega) _) (by dsimp only; omega) _
    · have hk1 : k = 128 := by omega
      subst hk1
      obtain ⟨e1, e2⟩ := div_at_end HD.out
      have E1 := Lib.hid e1; have E2 := Lib.hid e2
      clear e1 e2 hlt hD hm0 hq0 hr0
      obtain ⟨r0, r1, r2, r3⟩ := hR
      obtain ⟨q0, q1, q2, q3⟩ := hQ
      go_wp2_with fail
      refine bodyPost_ret (v := .tuple #[.agg #[.int .u64 (mH q), .int .u64 (mL q)], .int .u64 r]) (by simp [results, Tryd.results61, go_sem, r0, r1]) rfl ⟨by rw [← E1.out, ← E2.out], ?_⟩
      (repeat (first | exact hB | refine bal ?_ _ | refine bset ?_ (by dsimp only; omega) _))
end Go.Proofs.YtjhfbnndapopgaaDoor
