/-
  Contracts of package money's Code, a range over a text, and of the document's own.
-/
import Derived.Test.YtkijbckpfcfcpabDoorMA
import Derived.Laws.RangeAny
namespace Go.Proofs.YtkijbckpfcfcpabDoor
open Go Go.RowKit WM

def capB (c : UInt8) : Bool := decide (65 ≤ (c.toNat : Int) ∧ (c.toNat : Int) ≤ 90)
def codeB (l : List UInt8) : Bool := decide (l.length = 3) && l.all capB
theorem size_list (s : ByteArray) : s.data.toList.length = s.size := by rw [Array.length_toList]; rfl
theorem cap_stop (s : ByteArray) (k : Nat) (h : k < s.size) (hc : capB s[k] = false) : s.data.toList.all capB = false := by
  cases h' : s.data.toList.all capB
  · rfl
  · rw [List.all_eq_true] at h'
    have h2 : s[k] ∈ s.data.toList := by
      have : s[k] = s.data.toList[k]'(by rw [size_list]; exact h) := rfl
      rw [this]; exact List.getElem_mem _
    rw [h' _ h2] at hc; cases hc

set_option maxRecDepth 100000 in
set_option maxHeartbeats 1000000 in
theorem mcode (s : ByteArray) (w : World) :
    Calls Tryd.prog 17 #[.string s] w fun e w' => e = .returned (.bool (codeB s.data.toList)) ∧ Below w.heap.size w w' := by
  by_cases h3 : s.size = 3
  · have h3z : ((s.size : Int) == 3) = true := by rw [beq_iff_eq]; omega
    have HL := Lib.hid h3
    have hle : s.size ≤ 3 := by omega
    have hlez : (s.size : Int) = 3 := by omega
    clear h3
    go_enter Tryd.func17, Tryd.ntmps17
    go_wp2
    go_loopw [4] (fun _ wr => ∃ k : Nat, k ≤ s.size ∧ wr = w.iter s k ∧ (s.data.toList.take k).all capB = true) (fun _ wr => s.size - wr.iterPos w.heap.size)
    case atStart => exact ⟨0, by omega, rfl, rfl⟩
    case round =>
      obtain ⟨k, hk, rfl, hall⟩ := hrel
      have HA := Lib.hid hall
      clear hall
      by_cases hlt : k < s.size
      · cases hc : capB s[k]
        · have HN : Hid (codeB s.data.toList = false) := Lib.hid (by unfold codeB; rw [cap_stop s k hlt hc, Bool.and_false])
          have hnx : ∀ ty, (Instr.next (.pointer (some ⟨w.heap.size, 0, none⟩)) true ty).run Tryd.prog (w.iter s k) = _ := fun ty => run_next_any w s k ty hlt
          have hD : ((Utf8.decode s k).1 : Int) < 65 ∨ (90 : Int) < ((Utf8.decode s k).1 : Int) := by
            simp only [capB, decide_eq_false_iff_not] at hc
            by_cases ha : s[k].toNat < 128
            · rw [decode_ascii s k hlt ha]
              show (s[k].toNat : Int) < 65 ∨ (90 : Int) < (s[k].toNat : Int)
              omega
            · have := (decode_high s k hlt (by omega)).1
              omega
          have hpos : k + (Utf8.decode s k).2 = k + (Utf8.decode s k).2 := rfl
          obtain ⟨D, hDD⟩ : ∃ D : Nat, (Utf8.decode s k).1 = D := ⟨_, rfl⟩
          obtain ⟨E, hEE⟩ : ∃ E : Nat, k + (Utf8.decode s k).2 = E := ⟨_, rfl⟩
          simp only [hDD, hEE] at hnx
          rw [hDD] at hD
          clear hDD hEE hc hpos
          rcases hD with hD | hD
          · have hd1 : decide ((D : Int) < 65) = true := by simpa using hD
            go_wp2
            go_ret
            exact ⟨by rw [HN.out]; rfl, (bal (bref _) _)⟩
          · have hd1 : decide ((D : Int) < 65) = false := by simp; omega
            have hd0 : ¬ (D : Int) < 65 := by omega
            have hd2 : decide ((90 : Int) < (D : Int)) = true := by simpa using hD
            go_wp2
            go_ret
            exact ⟨by rw [HN.out]; rfl, (bal (bref _) _)⟩
        · have HT := Lib.hid hc
          simp only [capB, decide_eq_true_eq] at hc
          obtain ⟨c0, c1⟩ := hc
          have hnx : ∀ ty, (Instr.next (.pointer (some ⟨w.heap.size, 0, none⟩)) true ty).run Tryd.prog (w.iter s k) = _ := fun ty => run_next_ascii w s k ty hlt (by omega)
          have hd1 : decide ((s[k].toNat : Int) < 65) = false := by simp; omega
          have hd2 : decide ((90 : Int) < (s[k].toNat : Int)) = false := by simp; omega
          go_wp2
          go_roundw
          case rel => exact ⟨k + 1, by omega, rfl, by rw [WM.take_snoc s k hlt, List.all_append, HA.out]; simp [HT.out]⟩
          case measure => simp only [World.iterPos_iter]; omega
      · have he : k = s.size := by omega
        subst he
        have hnx : ∀ ty, (Instr.next (.pointer (some ⟨w.heap.size, 0, none⟩)) true ty).run Tryd.prog (w.iter s s.size) = _ := fun ty => run_next_end w s s.size ty (by omega)
        have hall := HA.out
        rw [List.take_of_length_le (by rw [size_list]; omega)] at hall
        have HN : Hid (codeB s.data.toList = true) := Lib.hid (by unfold codeB; rw [hall, size_list, HL.out]; rfl)
        clear hall
        go_wp2
        go_ret
        exact ⟨by rw [HN.out]; rfl, (bal (bref _) _)⟩
  · have h3z : ((s.size : Int) == 3) = false := by rw [beq_eq_false_iff_ne]; omega
    have hn3 : ¬ (s.size : Int) = 3 := by omega
    have HN : Hid (codeB s.data.toList = false) := Lib.hid (by unfold codeB; rw [size_list, decide_eq_false h3, Bool.false_and])
    clear h3
    go_enter Tryd.func17, Tryd.ntmps17
    go_wp2
    go_ret
    exact ⟨by rw [HN.out]; rfl, bref _⟩

set_option maxRecDepth 100000 in
set_option maxHeartbeats 1000000 in
theorem rcode (s : ByteArray) (w : World) :
    Calls Tryd.prog 18 #[.string s] w fun e w' => e = .returned (.bool (codeB s.data.toList)) ∧ w = w' := by
  by_cases h3 : s.size = 3
  · have h3z : ((s.size : Int) == 3) = true := by rw [beq_iff_eq]; omega
    have HL := Lib.hid h3
    have hlez : (s.size : Int) = 3 := by omega
    go_enter Tryd.func18, Tryd.ntmps18
    clear h3
    go_wp2
    go_loop [3] (fun i => ∃ k : Nat, k ≤ 3 ∧ i = .int .i64 k ∧ (s.data.toList.take k).all capB = true) (fun i => 3 - (RowKit.intOf i).toNat)
    case atStart => exact ⟨0, by omega, rfl, rfl⟩
    case round =>
      obtain ⟨k, hk, rfl, hall⟩ := hrel
      have HA := Lib.hid hall
      clear hall
      by_cases hlt3 : k < 3
      · have hlt : k < s.size := by omega
        have hkz : (k : Int) < 3 := by omega
        cases hc : capB s[k]
        · have HN : Hid (codeB s.data.toList = false) := Lib.hid (by unfold codeB; rw [cap_stop s k hlt hc, Bool.and_false])
          simp only [capB, decide_eq_false_iff_not] at hc
          by_cases h65 : (s[k].toNat : Int) < 65
          · have hd1 : decide ((s[k].toNat : Int) < 65) = true := by simpa using h65
            clear hc
            go_wp2
            go_ret
            exact ⟨by rw [HN.out]; rfl, rfl⟩
          · have h90 : (90 : Int) < (s[k].toNat : Int) := by omega
            have hd1 : decide ((s[k].toNat : Int) < 65) = false := by simpa using h65
            have hd2 : decide ((90 : Int) < (s[k].toNat : Int)) = true := by simpa using h90
            clear hc
            go_wp2
            go_ret
            exact ⟨by rw [HN.out]; rfl, rfl⟩
        · have HT := Lib.hid hc
          simp only [capB, decide_eq_true_eq] at hc
          obtain ⟨c0, c1⟩ := hc
          have hd1 : decide ((s[k].toNat : Int) < 65) = false := by simp; omega
          have hd2 : decide ((90 : Int) < (s[k].toNat : Int)) = false := by simp; omega
          go_wp2
          go_round
          case rel => exact ⟨k + 1, by omega, by go_num, by rw [WM.take_snoc s k hlt, List.all_append, HA.out]; simp [HT.out]⟩
          case measure => simp [RowKit.intOf]; omega
      · have he : k = 3 := by omega
        subst he
        have hall := HA.out
        rw [List.take_of_length_le (by rw [size_list]; have := HL.out; omega)] at hall
        have HN : Hid (codeB s.data.toList = true) := Lib.hid (by unfold codeB; rw [hall, size_list, HL.out]; rfl)
        clear hall
        go_wp2
        go_ret
        exact ⟨by rw [HN.out]; rfl, rfl⟩
  · have h3z : ((s.size : Int) == 3) = false := by rw [beq_eq_false_iff_ne]; omega
    have hn3 : ¬ (s.size : Int) = 3 := by omega
    have HN : Hid (codeB s.data.toList = false) := Lib.hid (by unfold codeB; rw [size_list, decide_eq_false h3, Bool.false_and])
    clear h3
    go_enter Tryd.func18, Tryd.ntmps18
    go_wp2
    go_ret
    exact ⟨by rw [HN.out]; rfl, rfl⟩
end Go.Proofs.YtkijbckpfcfcpabDoor
