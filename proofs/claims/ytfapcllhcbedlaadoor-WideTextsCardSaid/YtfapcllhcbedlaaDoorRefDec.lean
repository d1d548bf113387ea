/-
  The contract of the document's own Decimal.
-/
import Derived.Test.YtfapcllhcbedlaaDoorWalkC
import Derived.Test.YtfapcllhcbedlaaDoorTextMath
import Derived.WalkSpells
import Derived.WalkMore
import Derived.Deep.LoopGhost
namespace Go.Proofs.YtfapcllhcbedlaaDoor
open Go Go.RowKit Go.Lib WM

theorem bytes_head (s : ByteArray) (h : 0 < s.size) : ∃ c t, s.data.toList = c :: t ∧ s[0] = c ∧ s.size = t.length + 1 := by
  obtain ⟨⟨l⟩⟩ := s
  match l, h with
  | c :: t, _ => exact ⟨c, t, rfl, rfl, rfl⟩
theorem bytes_nil (s : ByteArray) (h : s.size = 0) : s.data.toList = [] := by
  apply List.eq_nil_of_length_eq_zero
  rw [Array.length_toList]; exact h
theorem allDig_stop (s : ByteArray) (j : Nat) (h : j < s.size) (hd : dig s[j] = false) : allDig s.data.toList = false := by
  cases h' : allDig s.data.toList
  · rfl
  · have := allDig_take _ (j + 1) h'
    rw [take_snoc s j h, allDig_snoc, hd, Bool.and_false] at this
    cases this

set_option maxRecDepth 100000 in
set_option maxHeartbeats 4000000 in
/-- No sign in front. -/
theorem rdec_plain (s : ByteArray) (hs : s.size ≤ 1000000) (w : World) (c : UInt8) (t : List UInt8) (hl : s.data.toList = c :: t) (hc : c ≠ 45) :
    Calls Tryd.prog 73 #[.string s] w fun e w' => e = .returned (.bool (decB s.data.toList)) ∧ Below w.heap.size w w' := by
  have hpos : 0 < s.size := by
    have : s.data.toList.length = s.size := by rw [Array.length_toList]; rfl
    rw [hl] at this; simp at this; omega
  obtain ⟨c', t', e1, e2, e3⟩ := bytes_head s hpos
  rw [hl] at e1
  injection e1 with e1 e1'
  subst e1 e1'
  have h0 : (s[0].toNat : Int) ≠ 45 := by
    rw [e2]; intro h; exact hc (UInt8.toNat_inj.1 (by rw [show (45 : UInt8).toNat = 45 from rfl]; omega))
  have h1 : ((s[0].toNat : Int) == 45) = false := by rw [beq_eq_false_iff_ne]; exact h0
  have hp : (0 : Int) < (s.size : Int) := by omega
  have hpn : decide (0 < s.size) = true := by simpa using hpos
  have hlen : s.data.toList.length = s.size := by rw [Array.length_toList]; rfl
  have htl : s.toList = s.data.toList := Lib.toList_data s
  have hdB := decB_no c t hc
  rw [← hl] at hdB
  have E2 := Lib.hid e2; have HDB := Lib.hid hdB; have HTL := Lib.hid htl; have HLEN := Lib.hid hlen; have HL := Lib.hid hl
  have hq : ((s.toList == [48]) = true ∧ (s.data.toList == [48]) = true) ∨ ((s.toList == [48]) = false ∧ (s.data.toList == [48]) = false) := by
    rw [htl]
    cases (s.data.toList == [48])
    · exact Or.inr ⟨rfl, rfl⟩
    · exact Or.inl ⟨rfl, rfl⟩
  clear e2 e3 hdB hl hc htl hlen h0
  go_enter Tryd.func73, Tryd.ntmps73
  go_wp2_with fail
  go_loop [3] (fun i => ∃ j : Nat, j ≤ s.size ∧ i = .int .i64 j ∧ allDig (s.data.toList.take j) = true) (fun i => s.size - (RowKit.intOf i).toNat)
  case atStart => exact ⟨0, by omega, rfl, rfl⟩
  case round =>
    obtain ⟨j, hj, rfl, hall⟩ := hrel
    have HA := Lib.hid hall
    clear hall
    by_cases hlt : j < s.size
    · have hlt' : (j : Int) < (s.size : Int) := by omega
      have hby : 0 ≤ (s[j].toNat : Int) := by omega
      by_cases c1 : (s[j].toNat : Int) < 48
      · have hno := allDig_stop s j hlt (by simp only [dig, decide_eq_false_iff_not]; omega)
        have HNO := Lib.hid hno
        clear hno
        go_wp2
        go_ret
        exact ⟨by rw [HDB.out, HNO.out]; rfl, bref _⟩
      · by_cases c2 : 57 < (s[j].toNat : Int)
        · have hno := allDig_stop s j hlt (by simp only [dig, decide_eq_false_iff_not]; omega)
          have HNO := Lib.hid hno
          clear hno
          go_wp2
          go_ret
          exact ⟨by rw [HDB.out, HNO.out]; rfl, bref _⟩
        · have hdj : dig s[j] = true := by simp only [dig, decide_eq_true_eq]; omega
          have HDJ := Lib.hid hdj
          clear hdj
          go_wp2
          go_round
          case rel => exact ⟨j + 1, by omega, by go_num, by rw [take_snoc s j hlt, allDig_snoc, HA.out, HDJ.out]; rfl⟩
          case measure => simp [RowKit.intOf]; omega
    · have hje : j = s.size := by omega
      subst hje
      have hall : allDig s.data.toList = true := by
        have := HA.out
        rwa [List.take_of_length_le (by rw [HLEN.out]; omega)] at this
      rcases hq with ⟨h2, h3⟩ | ⟨h2, h3⟩
      · go_wp2
        go_ret
        exact ⟨by rw [HDB.out, hall, h3]; rfl, bref _⟩
      · by_cases h4 : (s[0].toNat : Int) = 48
        · have h5 : ((s[0].toNat : Int) == 48) = true := by simpa using h4
          have h6 : ((s[0].toNat : Int) != 48) = false := by rw [bne_eq_false_iff_eq]; exact h4
          have hc48 : (c != 48) = false := by
            rw [bne_eq_false_iff_eq, ← E2.out]; exact UInt8.toNat_inj.1 (by rw [show (48 : UInt8).toNat = 48 from rfl]; omega)
          have HC := Lib.hid hc48
          have HALL := Lib.hid hall
          have H3 := Lib.hid h3
          clear h4 hc48 hall h3
          go_wp2
          go_ret
          exact ⟨by rw [HDB.out, HALL.out, H3.out, HC.out]; rfl, bref _⟩
        · have h5 : ((s[0].toNat : Int) == 48) = false := by simpa using h4
          have h6 : ((s[0].toNat : Int) != 48) = true := by rw [bne_iff_ne]; exact h4
          have hc48 : (c != 48) = true := by
            rw [bne_iff_ne]
            intro h
            apply h4
            rw [E2.out, h]; rfl
          have HC := Lib.hid hc48
          have HALL := Lib.hid hall
          have H3 := Lib.hid h3
          clear h4 hc48 hall h3
          go_wp2
          go_ret
          exact ⟨by rw [HDB.out, HALL.out, H3.out, HC.out]; rfl, bref _⟩
end Go.Proofs.YtfapcllhcbedlaaDoor
