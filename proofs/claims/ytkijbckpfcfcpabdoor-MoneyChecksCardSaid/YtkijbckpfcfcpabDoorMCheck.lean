/-
  Contracts of package money's Check, and of the document's own.
-/
import Derived.Test.YtkijbckpfcfcpabDoorMFind
import Derived.Laws.Cover1
import Derived.Deep.QuietTactic
import Derived.BigQuiet
namespace Go.Proofs.YtkijbckpfcfcpabDoor
open Go Go.RowKit Go.Lib WM

def leS (a b : ByteArray) : Bool := Op.bytesLess a.toList b.toList || a.toList == b.toList
/-- What is wrong with an element behind the code p. -/
def errC (p : ByteArray) (c : Cur) : Int := if codeB c.1.data.toList then (if plB c.2 then (if leS c.1 p then 10 else 0) else 1) else 4
def chk (p : ByteArray) : List Cur → Int
  | [] => 0
  | c :: cs => if errC p c = 0 then chk c.1 cs else errC p c
def checkC (cs : List Cur) : Int := if cs.length < 1 ∨ 8 < cs.length then 5 else chk ⟨#[]⟩ cs
theorem drop_c (cs : List Cur) (k : Nat) (h : k < cs.length) : cs.drop k = cs.getD k zeroC :: cs.drop (k + 1) := by
  rw [List.drop_eq_getElem_cons h]
  simp [List.getD, h]
theorem chk_bad (p : ByteArray) (c : Cur) (cs : List Cur) (h : errC p c ≠ 0) : chk p (c :: cs) = errC p c := by rw [chk, if_neg h]
theorem chk_good (p : ByteArray) (c : Cur) (cs : List Cur) (h : errC p c = 0) : chk p (c :: cs) = chk c.1 cs := by rw [chk, if_pos h]

set_option maxRecDepth 100000 in
set_option maxHeartbeats 4000000 in
theorem mcheck (ao : Option Addr) (cap : Nat) (cs : List Cur) (w : World) (hc : CashAt ao cs w) :
    Calls Tryd.prog 19 #[.slice ao cs.length cap] w fun e w' => e = .returned (.int .i64 (checkC cs)) ∧ Below w.heap.size w w' := by
  obtain ⟨R, hR⟩ : ∃ R, checkC cs = R := ⟨_, rfl⟩
  rw [hR]
  by_cases h1 : cs.length < 1
  · have HR : Hid (R = 5) := Lib.hid (by rw [← hR]; unfold checkC; rw [if_pos (Or.inl h1)])
    have hz : (cs.length : Int) < 1 := by omega
    clear hR h1
    go_enter Tryd.func19, Tryd.ntmps19
    go_wp2_with fail
    go_ret
    exact ⟨by rw [HR.out]; rfl, bref _⟩
  · by_cases h8 : 8 < cs.length
    · have HR : Hid (R = 5) := Lib.hid (by rw [← hR]; unfold checkC; rw [if_pos (Or.inr h8)])
      have hz : ¬ (cs.length : Int) < 1 := by omega
      have hz8 : (8 : Int) < (cs.length : Int) := by omega
      clear hR h1 h8
      go_enter Tryd.func19, Tryd.ntmps19
      go_wp2_with fail
      go_ret
      exact ⟨by rw [HR.out]; rfl, bref _⟩
    · have HR : Hid (chk ⟨#[]⟩ cs = R) := Lib.hid (by rw [← hR]; unfold checkC; rw [if_neg (by omega)])
      have hz : ¬ (cs.length : Int) < 1 := by omega
      have hz8 : ¬ (8 : Int) < (cs.length : Int) := by omega
      have HC := Lib.hid hc
      clear hR h1 h8 hc
      go_enter Tryd.func19, Tryd.ntmps19
      go_wp2_with fail
      go_loopw [3, 16] (fun x i wr => ∃ (k : Nat) (p : ByteArray), k ≤ cs.length ∧ i = .int .i64 k ∧ x = .string p ∧ chk p (cs.drop k) = R ∧ Below w.heap.size w wr) (fun _ i _ => cs.length - (RowKit.intOf i).toNat)
      case atStart => exact ⟨0, ⟨#[]⟩, by omega, rfl, rfl, by rw [List.drop_zero]; exact HR.out, bref _⟩
      case round =>
        obtain ⟨k, p, hk, rfl, rfl, hch, hB⟩ := hrel
        have HB := Lib.hid hB
        by_cases hlt : k < cs.length
        · obtain ⟨b, off, rfl, hbw, c0, c1⟩ := (HC.out.keep hB) k hlt
          rw [drop_c cs k hlt] at hch
          obtain ⟨s, hs⟩ : ∃ s, (cs.getD k zeroC).1 = s := ⟨_, rfl⟩
          obtain ⟨d, hd⟩ : ∃ d, (cs.getD k zeroC).2 = d := ⟨_, rfl⟩
          rw [hs] at c0; rw [hd] at c1
          have hpair : cs.getD k zeroC = (s, d) := by rw [← hs, ← hd]
          rw [hpair] at hch
          have hkz : (k : Int) < (cs.length : Int) := by omega
          have hbl : b < wr.heap.size := by have := hB.size; omega
          have X := Own.new wr (.string s) (.int .i64 d) 35
          have CD := fun W => mcode s W
          have PD := fun W => mdigits d W
          cases hcd : codeB s.data.toList
          · have HRR : Hid (R = 4) := Lib.hid (by
              have e : errC p (s, d) = 4 := by unfold errC; rw [hcd]; rfl
              rw [← hch, chk_bad _ _ _ (by rw [e]; omega), e])
            simp only [hcd] at CD
            have CD := Lib.hid CD
            clear hs hd hpair hB hch hcd X PD
            go_wp2_with fail
            refine (CD.out _).mono ?_
            rintro e w1 ⟨rfl, q1⟩
            have Z1 := btr (bal HB.out _) q1
            go_wp2_with fail
            go_ret
            exact ⟨by rw [HRR.out]; rfl, Z1⟩
          · simp only [hcd] at CD
            have CD := Lib.hid CD
            cases hpd : plB d
            · have HRR : Hid (R = 1) := Lib.hid (by
                have e : errC p (s, d) = 1 := by unfold errC; rw [hcd, hpd]; rfl
                rw [← hch, chk_bad _ _ _ (by rw [e]; omega), e])
              simp only [hpd] at PD
              have PD := Lib.hid PD
              clear hs hd hpair hB hch hcd hpd
              go_wp2_with fail
              refine (CD.out _).mono ?_
              rintro e w1 ⟨rfl, q1⟩
              have Z1 := btr (bal HB.out _) q1
              obtain ⟨x0, x1, _, _⟩ := X.keep q1
              go_wp2_with fail
              refine (PD.out _).mono ?_
              rintro e w2 ⟨rfl, rfl⟩
              go_wp2_with fail
              go_ret
              exact ⟨by rw [HRR.out]; rfl, Z1⟩
            · simp only [hpd] at PD
              have PD := Lib.hid PD
              cases hle : (Op.bytesLess s.toList p.toList || s.toList == p.toList)
              · have HST : Hid (chk s (cs.drop (k + 1)) = R) := Lib.hid (by
                  have e : errC p (s, d) = 0 := by unfold errC leS; rw [hcd, hpd, hle]; rfl
                  rw [← hch, chk_good _ _ _ e])
                clear hs hd hpair hB hch hcd hpd
                go_wp2_with fail
                refine (CD.out _).mono ?_
                rintro e w1 ⟨rfl, q1⟩
                have Z1 := btr (bal HB.out _) q1
                obtain ⟨x0, x1, _, _⟩ := X.keep q1
                go_wp2_with fail
                refine (PD.out _).mono ?_
                rintro e w2 ⟨rfl, rfl⟩
                go_wp2_with fail
                go_roundw
                case rel => exact ⟨k + 1, s, hlt, by go_num, rfl, HST.out, Z1⟩
                case measure => simp [RowKit.intOf]; omega
              · have HRR : Hid (R = 10) := Lib.hid (by
                  have e : errC p (s, d) = 10 := by unfold errC leS; rw [hcd, hpd, hle]; rfl
                  rw [← hch, chk_bad _ _ _ (by rw [e]; omega), e])
                clear hs hd hpair hB hch hcd hpd
                go_wp2_with fail
                refine (CD.out _).mono ?_
                rintro e w1 ⟨rfl, q1⟩
                have Z1 := btr (bal HB.out _) q1
                obtain ⟨x0, x1, _, _⟩ := X.keep q1
                go_wp2_with fail
                refine (PD.out _).mono ?_
                rintro e w2 ⟨rfl, rfl⟩
                go_wp2_with fail
                go_ret
                exact ⟨by rw [HRR.out]; rfl, Z1⟩
        · have he : k = cs.length := by omega
          subst he
          have HRR : Hid (R = 0) := Lib.hid (by rw [← hch, List.drop_length]; rfl)
          clear hch hB
          go_wp2_with fail
          go_ret
          exact ⟨by rw [HRR.out]; rfl, HB.out⟩
end Go.Proofs.YtkijbckpfcfcpabDoor
