/-
  The contract of the document's own Check.
-/
import Derived.Test.YtkijbckpfcfcpabDoorMCheck
namespace Go.Proofs.YtkijbckpfcfcpabDoor
open Go Go.RowKit Go.Lib WM

def pv (cs : List Cur) (k : Nat) : ByteArray := if k = 0 then ⟨#[]⟩ else (cs.getD (k - 1) zeroC).1
theorem le_empty (s : ByteArray) (h : codeB s.data.toList = true) : leS s ⟨#[]⟩ = false := by
  have et : s.toList = s.data.toList := Lib.toList_data s
  have ee : (⟨#[]⟩ : ByteArray).toList = [] := by rw [Lib.toList_data]
  unfold leS
  rw [et, ee]
  cases hl : s.data.toList with
  | nil => rw [hl] at h; cases h
  | cons c t => simp [Op.bytesLess]

set_option maxRecDepth 100000 in
set_option maxHeartbeats 4000000 in
theorem rcheck (ao : Option Addr) (cap : Nat) (cs : List Cur) (w : World) (hc : CashAt ao cs w) :
    Calls Tryd.prog 22 #[.slice ao cs.length cap] w fun e w' => e = .returned (.int .i64 (checkC cs)) ∧ Below w.heap.size w w' := by
  obtain ⟨R, hR⟩ : ∃ R, checkC cs = R := ⟨_, rfl⟩
  rw [hR]
  by_cases h1 : cs.length < 1
  · have HR : Hid (R = 5) := Lib.hid (by rw [← hR]; unfold checkC; rw [if_pos (Or.inl h1)])
    have hz : (cs.length : Int) < 1 := by omega
    clear hR h1
    go_enter Tryd.func22, Tryd.ntmps22
    go_wp2_with fail
    go_ret
    exact ⟨by rw [HR.out]; rfl, bref _⟩
  · by_cases h8 : 8 < cs.length
    · have HR : Hid (R = 5) := Lib.hid (by rw [← hR]; unfold checkC; rw [if_pos (Or.inr h8)])
      have hz : ¬ (cs.length : Int) < 1 := by omega
      have hz8 : (8 : Int) < (cs.length : Int) := by omega
      clear hR h1 h8
      go_enter Tryd.func22, Tryd.ntmps22
      go_wp2_with fail
      go_ret
      exact ⟨by rw [HR.out]; rfl, bref _⟩
    · have HR : Hid (chk ⟨#[]⟩ cs = R) := Lib.hid (by rw [← hR]; unfold checkC; rw [if_neg (by omega)])
      have hz : ¬ (cs.length : Int) < 1 := by omega
      have hz8 : ¬ (8 : Int) < (cs.length : Int) := by omega
      have hzl : (cs.length : Int) ≤ 8 := by omega
      have HC := Lib.hid hc
      clear hR h1 h8 hc
      go_enter Tryd.func22, Tryd.ntmps22
      go_wp2_with fail
      go_loopw [3] (fun i wr => ∃ k : Nat, k ≤ cs.length ∧ i = .int .i64 k ∧ chk (pv cs k) (cs.drop k) = R ∧ Below w.heap.size w wr) (fun i _ => cs.length - (RowKit.intOf i).toNat)
      case atStart => exact ⟨0, by omega, rfl, by rw [List.drop_zero]; exact HR.out, bref _⟩
      case round =>
        obtain ⟨k, hk, rfl, hch, hB⟩ := hrel
        have HB := Lib.hid hB
        by_cases hlt : k < cs.length
        · obtain ⟨b, off, rfl, hbw, c0, c1⟩ := (HC.out.keep hB) k hlt
          rw [drop_c cs k hlt] at hch
          obtain ⟨s, hs⟩ : ∃ s, (cs.getD k zeroC).1 = s := ⟨_, rfl⟩
          obtain ⟨d, hd⟩ : ∃ d, (cs.getD k zeroC).2 = d := ⟨_, rfl⟩
          rw [hs] at c0; rw [hd] at c1
          have hpair : cs.getD k zeroC = (s, d) := by rw [← hs, ← hd]
          have hpv : pv cs (k + 1) = s := by unfold pv; rw [if_neg (by omega), Nat.add_sub_cancel, hpair]
          rw [hpair] at hch
          have hkz : (k : Int) < (cs.length : Int) := by omega
          have CD := fun W => rcode s W
          cases hcd : codeB s.data.toList
          · have HRR : Hid (R = 4) := Lib.hid (by
              have e : errC (pv cs k) (s, d) = 4 := by unfold errC; rw [hcd]; rfl
              rw [← hch, chk_bad _ _ _ (by rw [e]; omega), e])
            simp only [hcd] at CD
            have CD := Lib.hid CD
            clear hs hd hpair hB hch hcd hpv
            go_wp2_with fail
            refine (CD.out _).mono ?_
            rintro e w1 ⟨rfl, rfl⟩
            go_wp2_with fail
            go_ret
            exact ⟨by rw [HRR.out]; rfl, HB.out⟩
          · simp only [hcd] at CD
            have CD := Lib.hid CD
            cases hpd : plB d
            · have HRR : Hid (R = 1) := Lib.hid (by
                have e : errC (pv cs k) (s, d) = 1 := by unfold errC; rw [hcd, hpd]; rfl
                rw [← hch, chk_bad _ _ _ (by rw [e]; omega), e])
              have hdd : d < 0 ∨ 4 < d := by
                have : ¬ (0 ≤ d ∧ d ≤ 4) := by simpa [plB] using hpd
                omega
              clear hs hd hpair hB hch hcd hpd hpv
              rcases hdd with hdd | hdd
              · have e1 : decide (d < 0) = true := by simpa using hdd
                go_wp2_with fail
                refine (CD.out _).mono ?_
                rintro e w1 ⟨rfl, rfl⟩
                go_wp2_with fail
                go_ret
                exact ⟨by rw [HRR.out]; rfl, HB.out⟩
              · have e0 : ¬ d < 0 := by omega
                have e1 : decide (d < 0) = false := by simpa using e0
                have e2 : decide (4 < d) = true := by simpa using hdd
                go_wp2_with fail
                refine (CD.out _).mono ?_
                rintro e w1 ⟨rfl, rfl⟩
                go_wp2_with fail
                go_ret
                exact ⟨by rw [HRR.out]; rfl, HB.out⟩
            · have hdd : 0 ≤ d ∧ d ≤ 4 := by simpa [plB] using hpd
              have e0 : ¬ d < 0 := by omega
              have e00 : ¬ 4 < d := by omega
              have e1 : decide (d < 0) = false := by simpa using e0
              have e2 : decide (4 < d) = false := by simpa using e00
              by_cases hk0 : k = 0
              · subst hk0
                have HST : Hid (chk (pv cs (0 + 1)) (cs.drop (0 + 1)) = R) := Lib.hid (by
                  have e : errC (pv cs 0) (s, d) = 0 := by unfold errC; rw [hcd, hpd, show pv cs 0 = ⟨#[]⟩ from rfl, le_empty s hcd]; rfl
                  rw [hpv, ← hch, chk_good _ _ _ e])
                simp only [Nat.zero_mul, Nat.add_zero] at c0 c1
                clear hs hd hpair hB hch hcd hpd hpv
                go_wp2_with fail
                refine (CD.out _).mono ?_
                rintro e w1 ⟨rfl, rfl⟩
                go_wp2_with fail
                go_quiet (fail)
                go_wp2_with fail
                go_roundw
                case rel => exact ⟨0 + 1, hlt, by go_num, HST.out, bdn HB.out _⟩
                case measure => simp [RowKit.intOf]; omega
              · obtain ⟨j, hkj⟩ : ∃ j, k = j + 1 := ⟨k - 1, by omega⟩
                obtain ⟨b', off', hb', _, c2, _⟩ := (HC.out.keep hB) j (by omega)
                injection hb' with hb'
                injection hb' with hb1 hb2 _
                subst hb1 hb2
                obtain ⟨p, hp⟩ : ∃ p, (cs.getD j zeroC).1 = p := ⟨_, rfl⟩
                rw [hp] at c2
                have hpk : pv cs k = p := by unfold pv; rw [if_neg hk0, show k - 1 = j by omega, hp]
                rw [hpk] at hch
                have hwj : IntKind.i64.wrap ((k : Int) - 1) = (j : Int) := by rw [IntKind.wrap_i64]; omega
                have hg0 : decide ((0 : Int) < (k : Int)) = true := by simp; omega
                have hg1 : 0 < k := by omega
                have hg2 : decide (0 < k) = true := by simpa using hg1
                have hjz : (j : Int) < (cs.length : Int) := by omega
                have hj0 : (0 : Int) ≤ (j : Int) := by omega
                have hk00 : (0 : Int) ≤ (k : Int) := by omega
                cases hle : (Op.bytesLess s.toList p.toList || s.toList == p.toList)
                · have HST : Hid (chk (pv cs (k + 1)) (cs.drop (k + 1)) = R) := Lib.hid (by
                    have e : errC p (s, d) = 0 := by unfold errC leS; rw [hcd, hpd, hle]; rfl
                    rw [hpv, ← hch, chk_good _ _ _ e])
                  clear hs hd hpair hB hch hcd hpd hpv hp hpk hkj hk0
                  go_wp2_with fail
                  refine (CD.out _).mono ?_
                  rintro e w1 ⟨rfl, rfl⟩
                  go_wp2_with fail
                  go_quiet (fail)
                  go_wp2_with fail
                  go_roundw
                  case rel => exact ⟨k + 1, hlt, by go_num, HST.out, bdn HB.out _⟩
                  case measure => simp [RowKit.intOf]; omega
                · have HRR : Hid (R = 10) := Lib.hid (by
                    have e : errC p (s, d) = 10 := by unfold errC leS; rw [hcd, hpd, hle]; rfl
                    rw [← hch, chk_bad _ _ _ (by rw [e]; omega), e])
                  clear hs hd hpair hB hch hcd hpd hpv hp hpk hkj hk0
                  go_wp2_with fail
                  refine (CD.out _).mono ?_
                  rintro e w1 ⟨rfl, rfl⟩
                  go_wp2_with fail
                  go_quiet (fail)
                  go_wp2_with fail
                  go_ret
                  exact ⟨by rw [HRR.out]; rfl, bdn HB.out _⟩
        · have he : k = cs.length := by omega
          subst he
          have HRR : Hid (R = 0) := Lib.hid (by rw [← hch, List.drop_length]; rfl)
          clear hch hB
          go_wp2_with fail
          go_ret
          exact ⟨by rw [HRR.out]; rfl, HB.out⟩
end Go.Proofs.YtkijbckpfcfcpabDoor
