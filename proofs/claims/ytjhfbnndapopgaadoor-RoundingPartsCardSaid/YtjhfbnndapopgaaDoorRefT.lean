/-
  The contract of the document's own multiplication of magnitudes.
-/
import Derived.Test.YtjhfbnndapopgaaDoorRefC
import Derived.Test.YtjhfbnndapopgaaDoorMath
import Derived.WalkMore
import Derived.Deep.LoopGhost
namespace Go.Proofs.YtjhfbnndapopgaaDoor
open Go Go.RowKit WM

/-- What holds at the head of each round: k bits of the factor N are read, q is their number, r what is left of it, shifted. -/
def TRel (M N h l : Int) (w : World) (g : Nat) (v1 v7 v8 : Value) (wr : World) : Prop :=
  ∃ (k : Nat) (q r : Int), k ≤ 64 ∧ g = 64 - k ∧ v8 = .int .i64 k ∧ v1 = .int .u64 r ∧ U64 r ∧ 0 ≤ q ∧ q * 18446744073709551616 + r = N * 2 ^ k ∧ v7 = .bool (fitsM (M * q)) ∧
    Own wr (w.heap.size + 1 + 1) (.int .u64 (mH (modM (M * q)))) (.int .u64 (mL (modM (M * q)))) ∧ Own wr w.heap.size (.int .u64 h) (.int .u64 l) ∧ Own wr (w.heap.size + 1) (.int .u64 0) (.int .u64 0) ∧ Below w.heap.size w wr

set_option maxHeartbeats 8000000 in
theorem rtimes_any (h l N : Int) (hh : U64 h) (hl : U64 l) (hN : U64 N) (w : World) :
    Calls Tryd.prog 75 #[.agg #[.int .u64 h, .int .u64 l], .int .u64 N] w fun e w' =>
      e = .returned (.tuple #[.agg #[.int .u64 (mH (modM (val h l * N))), .int .u64 (mL (modM (val h l * N)))], .bool (fitsM (val h l * N))]) ∧ Below w.heap.size w w' := by
  obtain ⟨M, hMv⟩ : ∃ M, val h l = M := ⟨_, rfl⟩
  have hM0 : 0 ≤ M ∧ M < 340282366920938463463374607431768211456 := by rw [← hMv]; exact mag_bd hh hl
  have HMV := Lib.hid hMv
  have HM0 := Lib.hid hM0
  rw [hMv]
  clear hMv hM0
  go_enter Tryd.func75, Tryd.ntmps75
  go_wp2_with fail
  go_loopg [1, 7, 8] 64 (fun g v1 v7 v8 wr => TRel M N h l w g v1 v7 v8 wr)
  case atStart =>
    refine ⟨0, 0, N, by omega, rfl, rfl, rfl, hN, by omega, by simp, ?_, ?_, ?_, ?_, ?_⟩
    · rw [Int.mul_zero]; rfl
    · rw [Int.mul_zero]; refine ⟨?_, ?_, ?_, ?_⟩ <;> simp [go_sem, modM, mH, mL]
    · refine ⟨?_, ?_, ?_, ?_⟩ <;> simp [go_sem]
    · refine ⟨?_, ?_, ?_, ?_⟩ <;> simp [go_sem]
    · repeat (first | exact bref _ | refine bal ?_ _)
  case round =>
    obtain ⟨k, q, r, hk, hg, rfl, rfl, hr, hq0, hqr, rfl, hO, hM, hR, hB⟩ := hrel
    obtain ⟨wo, rfl⟩ : ∃ wo : World, wo = wr := ⟨_, rfl⟩
    have HQR := Lib.hid hqr
    obtain ⟨p, hp⟩ : ∃ p, M * q = p := ⟨_, rfl⟩
    have HP := Lib.hid hp
    have hp0 : 0 ≤ p := by rw [← hp]; exact Int.mul_nonneg HM0.out.1 hq0
    rw [hp] at hO
    simp only [hp]
    clear hp hqr
    obtain ⟨o0, o1, o2, o3⟩ := hO
    have hO : Own wo (w.heap.size + 1 + 1) (.int .u64 (mH (modM p))) (.int .u64 (mL (modM p))) := ⟨o0, o1, o2, o3⟩
    by_cases hlt : k < 64
    · obtain ⟨u1, u2⟩ := modM_U p
      have P1 := fun W => rplus_any (mH (modM p)) (mL (modM p)) (mH (modM p)) (mL (modM p)) u1 u2 u1 u2 W
      simp only [modM_mag, modM_two] at P1
      have F1 := fits_two hp0
      obtain ⟨G1, hG1⟩ : ∃ b, fitsM (modM p + modM p) = b := ⟨_, rfl⟩
      simp only [hG1] at P1 F1
      have P1 := Lib.hid P1
      have F1 := Lib.hid F1
      clear hG1 u1 u2
      go_wp2_with fail
      refine (P1.out _).mono ?_
      rintro e w1 ⟨rfl, q1⟩
      have R1 := hR.keep q1
      have M1 := hM.keep q1
      have O1 := hO.keep q1
      have B1 := btr hB q1
      have s1 := O1.lt
      clear hR hM hO hB q1 o0 o1 o2 o3
      obtain ⟨o0, o1, o2, o3⟩ := O1
      have O1 : Own w1 (w.heap.size + 1 + 1) (.int .u64 (mH (modM p))) (.int .u64 (mL (modM p))) := ⟨o0, o1, o2, o3⟩
      obtain ⟨m0, m1, m2, m3⟩ := M1
      have M1 : Own w1 (w.heap.size) (.int .u64 h) (.int .u64 l) := ⟨m0, m1, m2, m3⟩
      have sM := M1.lt
      have hD := modM_U (2 * p)
      have P2 := fun W => rplus_any (mH (modM (2 * p))) (mL (modM (2 * p))) h l hD.1 hD.2 hh hl W
      simp only [modM_mag, HMV.out, modM_add] at P2
      have F2 := fits_more (p := 2 * p) (m := M) (by omega) HM0.out.1
      obtain ⟨G2, hG2⟩ : ∃ b, fitsM (modM (2 * p) + M) = b := ⟨_, rfl⟩
      simp only [hG2] at P2 F2
      have P2 := Lib.hid P2
      have F2 := Lib.hid F2
      clear hG2 hD
      by_cases hb : 9223372036854775808 ≤ r
      · have hx := u64_top r hr
        rw [if_pos hb] at hx
        cases hfp : fitsM p
        · go_wp2_with fail
          refine (P2.out _).mono ?_
          rintro e w2 ⟨rfl, q2⟩
          have R2 : Own w2 (w.heap.size + 1) (.int .u64 0) (.int .u64 0) := Own.keep (((R1.far (by dsimp only; omega) _).far (by dsimp only; omega) _).al _) q2
          have M2 : Own w2 w.heap.size (.int .u64 h) (.int .u64 l) := Own.keep (((M1.far (by dsimp only; omega) _).far (by dsimp only; omega) _).al _) q2
          have O2 : Own w2 (w.heap.size + 1 + 1) (.int .u64 (mH (modM (2 * p)))) (.int .u64 (mL (modM (2 * p)))) := Own.keep ((O1.put _ _).al _) q2
          have X2 : Own w2 w1.heap.size (.int .u64 (mH (modM (2 * p)))) (.int .u64 (mL (modM (2 * p)))) := Own.keep (by refine ⟨?_, ?_, ?_, ?_⟩ <;> simp [go_sem]) q2
          have B2 : Below w.heap.size w w2 := btr (bal (bset (bset B1 (by dsimp only; omega) _) (by dsimp only; omega) _) _) q2
          have s2 := X2.lt
          clear R1 M1 O1 B1 q2 o0 o1 o2 o3 m0 m1 m2 m3
          obtain ⟨o0, o1, o2, o3⟩ := O2
          have O2 : Own w2 (w.heap.size + 1 + 1) (.int .u64 (mH (modM (2 * p)))) (.int .u64 (mL (modM (2 * p)))) := ⟨o0, o1, o2, o3⟩
          obtain ⟨x0, x1, x2, x3⟩ := X2
          go_wp2_with fail
          go_roundg (64 - (k + 1))
          case measure => omega
          case rel =>
            obtain ⟨t1, t2⟩ := times_bit (m := M) HQR.out
            have HPO := HP.out
            rw [HPO] at t2
            refine ⟨k + 1, 2 * q + 1, 2 * r - 18446744073709551616, by omega, rfl, by go_num, ?_, ?_, by omega, ?_, ?_, ?_, ?_, ?_, ?_⟩
            · rw [IntKind.wrap_u64]; unfold U64 at hr; congr 1; omega
            · unfold U64 at *; omega
            · rw [pow_step]; exact t1
            · rw [t2, ← F2.out, ← F1.out]; simp [*]
            · rw [t2]; exact ((O2.far (by dsimp only; omega) _).far (by dsimp only; omega) _).put _ _
            · exact (((M2.far (by dsimp only; omega) _).far (by dsimp only; omega) _).far (by dsimp only; omega) _).far (by dsimp only; omega) _
            · exact (((R2.far (by dsimp only; omega) _).far (by dsimp only; omega) _).far (by dsimp only; omega) _).far (by dsimp only; omega) _
            · exact bset (bset (bset (bset B2 (by dsimp only; omega) _) (by dsimp only; omega) _) (by dsimp only; omega) _) (by dsimp only; omega) _
        · cases G1
          · go_wp2_with fail
            refine (P2.out _).mono ?_
            rintro e w2 ⟨rfl, q2⟩
            have R2 : Own w2 (w.heap.size + 1) (.int .u64 0) (.int .u64 0) := Own.keep (((R1.far (by dsimp only; omega) _).far (by dsimp only; omega) _).al _) q2
            have M2 : Own w2 w.heap.size (.int .u64 h) (.int .u64 l) := Own.keep (((M1.far (by dsimp only; omega) _).far (by dsimp only; omega) _).al _) q2
            have O2 : Own w2 (w.heap.size + 1 + 1) (.int .u64 (mH (modM (2 * p)))) (.int .u64 (mL (modM (2 * p)))) := Own.keep ((O1.put _ _).al _) q2
            have X2 : Own w2 w1.heap.size (.int .u64 (mH (modM (2 * p)))) (.int .u64 (mL (modM (2 * p)))) := Own.keep (by refine ⟨?_, ?_, ?_, ?_⟩ <;> simp [go_sem]) q2
            have B2 : Below w.heap.size w w2 := btr (bal (bset (bset B1 (by dsimp only; omega) _) (by dsimp only; omega) _) _) q2
            have s2 := X2.lt
            clear R1 M1 O1 B1 q2 o0 o1 o2 o3 m0 m1 m2 m3
            obtain ⟨o0, o1, o2, o3⟩ := O2
            have O2 : Own w2 (w.heap.size + 1 + 1) (.int .u64 (mH (modM (2 * p)))) (.int .u64 (mL (modM (2 * p)))) := ⟨o0, o1, o2, o3⟩
            obtain ⟨x0, x1, x2, x3⟩ := X2
            go_wp2_with fail
            go_roundg (64 - (k + 1))
            case measure => omega
            case rel =>
              obtain ⟨t1, t2⟩ := times_bit (m := M) HQR.out
              have HPO := HP.out
              rw [HPO] at t2
              refine ⟨k + 1, 2 * q + 1, 2 * r - 18446744073709551616, by omega, rfl, by go_num, ?_, ?_, by omega, ?_, ?_, ?_, ?_, ?_, ?_⟩
              · rw [IntKind.wrap_u64]; unfold U64 at hr; congr 1; omega
              · unfold U64 at *; omega
              · rw [pow_step]; exact t1
              · rw [t2, ← F2.out, ← F1.out]; simp [*]
              · rw [t2]; exact ((O2.far (by dsimp only; omega) _).far (by dsimp only; omega) _).put _ _
              · exact (((M2.far (by dsimp only; omega) _).far (by dsimp only; omega) _).far (by dsimp only; omega) _).far (by dsimp only; omega) _
              · exact (((R2.far (by dsimp only; omega) _).far (by dsimp only; omega) _).far (by dsimp only; omega) _).far (by dsimp only; omega) _
              · exact bset (bset (bset (bset B2 (by dsimp only; omega) _) (by dsimp only; omega) _) (by dsimp only; omega) _) (by dsimp only; omega) _
          · go_wp2_with fail
            refine (P2.out _).mono ?_
            rintro e w2 ⟨rfl, q2⟩
            have R2 : Own w2 (w.heap.size + 1) (.int .u64 0) (.int .u64 0) := Own.keep (((R1.far (by dsimp only; omega) _).far (by dsimp only; omega) _).al _) q2
            have M2 : Own w2 w.heap.size (.int .u64 h) (.int .u64 l) := Own.keep (((M1.far (by dsimp only; omega) _).far (by dsimp only; omega) _).al _) q2
            have O2 : Own w2 (w.heap.size + 1 + 1) (.int .u64 (mH (modM (2 * p)))) (.int .u64 (mL (modM (2 * p)))) := Own.keep ((O1.put _ _).al _) q2
            have X2 : Own w2 w1.heap.size (.int .u64 (mH (modM (2 * p)))) (.int .u64 (mL (modM (2 * p)))) := Own.keep (by refine ⟨?_, ?_, ?_, ?_⟩ <;> simp [go_sem]) q2
            have B2 : Below w.heap.size w w2 := btr (bal (bset (bset B1 (by dsimp only; omega) _) (by dsimp only; omega) _) _) q2
            have s2 := X2.lt
            clear R1 M1 O1 B1 q2 o0 o1 o2 o3 m0 m1 m2 m3
            obtain ⟨o0, o1, o2, o3⟩ := O2
            have O2 : Own w2 (w.heap.size + 1 + 1) (.int .u64 (mH (modM (2 * p)))) (.int .u64 (mL (modM (2 * p)))) := ⟨o0, o1, o2, o3⟩
            obtain ⟨x0, x1, x2, x3⟩ := X2
            go_wp2_with fail
            go_roundg (64 - (k + 1))
            case measure => omega
            case rel =>
              obtain ⟨t1, t2⟩ := times_bit (m := M) HQR.out
              have HPO := HP.out
              rw [HPO] at t2
              refine ⟨k + 1, 2 * q + 1, 2 * r - 18446744073709551616, by omega, rfl, by go_num, ?_, ?_, by omega, ?_, ?_, ?_, ?_, ?_, ?_⟩
              · rw [IntKind.wrap_u64]; unfold U64 at hr; congr 1; omega
              · unfold U64 at *; omega
              · rw [pow_step]; exact t1
              · rw [t2, ← F2.out, ← F1.out]; simp [*]
              · rw [t2]; exact ((O2.far (by dsimp only; omega) _).far (by dsimp only; omega) _).put _ _
              · exact (((M2.far (by dsimp only; omega) _).far (by dsimp only; omega) _).far (by dsimp only; omega) _).far (by dsimp only; omega) _
              · exact (((R2.far (by dsimp only; omega) _).far (by dsimp only; omega) _).far (by dsimp only; omega) _).far (by dsimp only; omega) _
              · exact bset (bset (bset (bset B2 (by dsimp only; omega) _) (by dsimp only; omega) _) (by dsimp only; omega) _) (by dsimp only; omega) _
      · have hx := u64_top r hr
        rw [if_neg hb] at hx
        cases hfp : fitsM p
        · go_wp2_with fail
          go_roundg (64 - (k + 1))
          case measure => omega
          case rel =>
            obtain ⟨t1, t2⟩ := times_nobit (m := M) HQR.out
            have HPO := HP.out
            rw [HPO] at t2
            refine ⟨k + 1, 2 * q, 2 * r, by omega, rfl, by go_num, ?_, ?_, by omega, ?_, ?_, ?_, ?_, ?_, ?_⟩
            · rw [IntKind.wrap_u64]; unfold U64 at hr; congr 1; omega
            · unfold U64 at *; omega
            · rw [pow_step]; exact t1
            · rw [t2, ← F1.out]; simp [*]
            · rw [t2]; exact (O1.put _ _).al _
            · exact ((M1.far (by dsimp only; omega) _).far (by dsimp only; omega) _).al _
            · exact ((R1.far (by dsimp only; omega) _).far (by dsimp only; omega) _).al _
            · exact bal (bset (bset B1 (by dsimp only; omega) _) (by dsimp only; omega) _) _
        · cases G1
          · go_wp2_with fail
            go_roundg (64 - (k + 1))
            case measure => omega
            case rel =>
              obtain ⟨t1, t2⟩ := times_nobit (m := M) HQR.out
              have HPO := HP.out
              rw [HPO] at t2
              refine ⟨k + 1, 2 * q, 2 * r, by omega, rfl, by go_num, ?_, ?_, by omega, ?_, ?_, ?_, ?_, ?_, ?_⟩
              · rw [IntKind.wrap_u64]; unfold U64 at hr; congr 1; omega
              · unfold U64 at *; omega
              · rw [pow_step]; exact t1
              · rw [t2, ← F1.out]; simp [*]
              · rw [t2]; exact (O1.put _ _).al _
              · exact ((M1.far (by dsimp only; omega) _).far (by dsimp only; omega) _).al _
              · exact ((R1.far (by dsimp only; omega) _).far (by dsimp only; omega) _).al _
              · exact bal (bset (bset B1 (by dsimp only; omega) _) (by dsimp only; omega) _) _
          · go_wp2_with fail
            go_roundg (64 - (k + 1))
            case measure => omega
            case rel =>
              obtain ⟨t1, t2⟩ := times_nobit (m := M) HQR.out
              have HPO := HP.out
              rw [HPO] at t2
              refine ⟨k + 1, 2 * q, 2 * r, by omega, rfl, by go_num, ?_, ?_, by omega, ?_, ?_, ?_, ?_, ?_, ?_⟩
              · rw [IntKind.wrap_u64]; unfold U64 at hr; congr 1; omega
              · unfold U64 at *; omega
              · rw [pow_step]; exact t1
              · rw [t2, ← F1.out]; simp [*]
              · rw [t2]; exact (O1.put _ _).al _
              · exact ((M1.far (by dsimp only; omega) _).far (by dsimp only; omega) _).al _
              · exact ((R1.far (by dsimp only; omega) _).far (by dsimp only; omega) _).al _
              · exact bal (bset (bset B1 (by dsimp only; omega) _) (by dsimp only; omega) _) _
    · have hk64 : k = 64 := by omega
      subst hk64
      have e := times_end HQR.out hr
      have HE : Hid (M * N = p) := Lib.hid (by rw [← HP.out, e])
      clear e hlt
      obtain ⟨r0, r1, r2, r3⟩ := hR
      go_wp2_with fail
      refine bodyPost_ret (v := .tuple #[.agg #[.int .u64 (mH (modM p)), .int .u64 (mL (modM p))], .bool (fitsM p)]) (by simp [results, Tryd.results75, go_sem, r0, r1]) rfl ⟨by rw [HE.out], ?_⟩
      (repeat (first | exact hB | refine bal ?_ _ | refine bset ?_ (by dsimp only; omega) _))
end Go.Proofs.YtjhfbnndapopgaaDoor
