/-
  Expressions: contracts of the document's own Name, Variable, Operands, most.
-/
import Derived.Test.YthanoilbcdhbkaaGreatDoorQHW
import Derived.Test.YthanoilbcdhbkaaGreatDoorQEH
namespace Go.Proofs.YthanoilbcdhbkaaGreatDoor
open Go Go.RowKit Go.Lib Go.Shelf WM TM EM

theorem nm_parts (s : ByteArray) (h0 : 0 < s.size) : nmOk (byt s) = (decide (s.size ≤ 16) && (decide (97 ≤ s[0].toNat ∧ s[0].toNat ≤ 122) && (byt s).all isW)) := by
 have hh : hd (byt s) = s[0] := by
  obtain ⟨⟨l⟩⟩ := s
  cases l with
  | nil => simp [ByteArray.size] at h0
  | cons c t => rfl
 unfold nmOk
 rw [hh, byt_len, decide_eq_true (show 1 ≤ s.size by omega), Bool.true_and]
 rfl
theorem isW_at (s : ByteArray) (k : Nat) (h : k < s.size) (hd : isW s[k] = false) : (byt s).all isW = false := by
 cases h' : (byt s).all isW
 ·rfl
 ·rw [List.all_eq_true] at h'
  have h2 : s[k] ∈ byt s := by
   have : s[k] = (byt s)[k]'(by rw [byt_len]; exact h) := rfl
   rw [this]; exact List.getElem_mem _
  rw [h' _ h2] at hd; cases hd
theorem isW_next (s : ByteArray) (k : Nat) (h : k < s.size) (ha : ((byt s).take k).all isW = true) (hd : isW s[k] = true) : ((byt s).take (k + 1)).all isW = true := by
 have e : (byt s).take (k + 1) = (byt s).take k ++ [s[k]] := WM.take_snoc s k h
 rw [e, List.all_append, ha]
 simp [hd]
theorem isW_cases (c : UInt8) : (isW c = true ∧ ((97 ≤ c.toNat ∧ c.toNat ≤ 122) ∨ (48 ≤ c.toNat ∧ c.toNat ≤ 57) ∨ c.toNat = 95)) ∨ (isW c = false ∧ (c.toNat < 48 ∨ (57 < c.toNat ∧ c.toNat < 95) ∨ c.toNat = 96 ∨ 122 < c.toNat)) := by
 have := u8_all (fun c => decide ((isW c = true ∧ ((97 ≤ c.toNat ∧ c.toNat ≤ 122) ∨ (48 ≤ c.toNat ∧ c.toNat ≤ 57) ∨ c.toNat = 95)) ∨ (isW c = false ∧ (c.toNat < 48 ∨ (57 < c.toNat ∧ c.toNat < 95) ∨ c.toNat = 96 ∨ 122 < c.toNat)))) (by decide +kernel) c
 exact of_decide_eq_true this
set_option maxRecDepth 100000 in
set_option maxHeartbeats 2000000 in
theorem rname (s : ByteArray) (w : World) :
  Calls Tryz.prog 72 #[.string s] w fun e w' => e = .returned (.bool (nmOk (byt s))) ∧ w = w' := by
 obtain ⟨R, hR⟩ : ∃ R, nmOk (byt s) = R := ⟨_, rfl⟩
 rw [hR]
 by_cases hz : s.size < 1
 ·have HR : Hid (R = false) := Lib.hid (by
   rw [← hR]; unfold nmOk; rw [byt_len, decide_eq_false (show ¬ 1 ≤ s.size by omega)]; rfl)
  have hzI : (s.size : Int) < 1 := by omega
  clear hR hz
  go_enter Tryz.func72, Tryz.ntmps72
  go_wp2_with fail
  go_ret
  exact ⟨by rw [HR.out]; rfl, rfl⟩
 ·have h0 : 0 < s.size := by omega
  have hP := nm_parts s h0
  rw [hR] at hP
  have hzI : ¬ (s.size : Int) < 1 := by omega
  clear hR hz
  by_cases hb : 16 < s.size
  ·have HR : Hid (R = false) := Lib.hid (by rw [hP, decide_eq_false (show ¬ s.size ≤ 16 by omega)]; rfl)
   have hbI : (16 : Int) < (s.size : Int) := by omega
   clear hP hb
   go_enter Tryz.func72, Tryz.ntmps72
   go_wp2_with fail
   go_ret
   exact ⟨by rw [HR.out]; rfl, rfl⟩
  ·rw [decide_eq_true (show s.size ≤ 16 by omega), Bool.true_and] at hP
   have hbI : ¬ (16 : Int) < (s.size : Int) := by omega
   by_cases h1 : s[0].toNat < 97
   ·have HR : Hid (R = false) := Lib.hid (by rw [hP, decide_eq_false (show ¬ (97 ≤ s[0].toNat ∧ s[0].toNat ≤ 122) by omega)]; rfl)
    have d1 : decide ((s[0].toNat : Int) < 97) = true := by simp; omega
    clear hP hb h1
    go_enter Tryz.func72, Tryz.ntmps72
    go_wp2_with fail
    go_ret
    exact ⟨by rw [HR.out]; rfl, rfl⟩
   ·by_cases h2 : 122 < s[0].toNat
    ·have HR : Hid (R = false) := Lib.hid (by rw [hP, decide_eq_false (show ¬ (97 ≤ s[0].toNat ∧ s[0].toNat ≤ 122) by omega)]; rfl)
     have d1 : decide ((s[0].toNat : Int) < 97) = false := by simp; omega
     have d2 : decide ((122 : Int) < (s[0].toNat : Int)) = true := by simp; omega
     clear hP hb h1 h2
     go_enter Tryz.func72, Tryz.ntmps72
     go_wp2_with fail
     go_ret
     exact ⟨by rw [HR.out]; rfl, rfl⟩
    ·have HR0 : Hid (R = (byt s).all isW) := Lib.hid (by rw [hP, decide_eq_true (show 97 ≤ s[0].toNat ∧ s[0].toNat ≤ 122 by omega), Bool.true_and])
     have e1 : decide ((s[0].toNat : Int) < 97) = false := by simp; omega
     have e2 : decide ((122 : Int) < (s[0].toNat : Int)) = false := by simp; omega
     clear hP hb h1 h2
     go_enter Tryz.func72, Tryz.ntmps72
     go_wp2_with fail
     go_loop [3] (fun i => ∃ k : Nat, k ≤ s.size ∧ i = .int .i64 k ∧ ((byt s).take k).all isW = true) (fun i => s.size - (RowKit.intOf i).toNat)
     case atStart => exact ⟨0, by omega, rfl, rfl⟩
     case round =>
      obtain ⟨k, hk, rfl, hall⟩ := hrel
      have HA := Lib.hid hall
      clear hall
      by_cases hlt : k < s.size
      ·have hkz : (k : Int) < (s.size : Int) := by omega
       rcases isW_cases s[k] with ⟨hw, hc⟩ | ⟨hw, hc⟩
       ·have HW := Lib.hid hw
        clear hw
        rcases hc with hc | hc | hc
        ·have d1 : decide ((s[k].toNat : Int) < 97) = false := by simp; omega
         have d2 : decide ((122 : Int) < (s[k].toNat : Int)) = false := by simp; omega
         clear hc
         go_wp2_with fail
         go_round
         case rel => exact ⟨k + 1, by omega, by go_num, isW_next s k hlt HA.out HW.out⟩
         case measure => simp [RowKit.intOf]; omega
        ·have d1 : decide ((s[k].toNat : Int) < 97) = true := by simp; omega
         have d3 : decide ((s[k].toNat : Int) < 48) = false := by simp; omega
         have d4 : decide ((57 : Int) < (s[k].toNat : Int)) = false := by simp; omega
         clear hc
         go_wp2_with fail
         go_round
         case rel => exact ⟨k + 1, by omega, by go_num, isW_next s k hlt HA.out HW.out⟩
         case measure => simp [RowKit.intOf]; omega
        ·have d1 : decide ((s[k].toNat : Int) < 97) = true := by simp; omega
         have d3 : decide ((s[k].toNat : Int) < 48) = false := by simp; omega
         have d4 : decide ((57 : Int) < (s[k].toNat : Int)) = true := by simp; omega
         have d5 : ((s[k].toNat : Int) == 95) = true := by first | (rw [beq_iff_eq]; omega) | (rw [beq_eq_false_iff_ne]; omega)
         clear hc
         go_wp2_with fail
         go_round
         case rel => exact ⟨k + 1, by omega, by go_num, isW_next s k hlt HA.out HW.out⟩
         case measure => simp [RowKit.intOf]; omega
       ·have HR : Hid (R = false) := Lib.hid (by rw [HR0.out]; exact isW_at s k hlt hw)
        clear hw
        rcases hc with hc | hc | hc | hc
        ·have d1 : decide ((s[k].toNat : Int) < 97) = true := by simp; omega
         have d3 : decide ((s[k].toNat : Int) < 48) = true := by simp; omega
         have d5 : ((s[k].toNat : Int) == 95) = false := by first | (rw [beq_iff_eq]; omega) | (rw [beq_eq_false_iff_ne]; omega)
         clear hc
         go_wp2_with fail
         go_ret
         exact ⟨by rw [HR.out]; rfl, rfl⟩
        ·have d1 : decide ((s[k].toNat : Int) < 97) = true := by simp; omega
         have d3 : decide ((s[k].toNat : Int) < 48) = false := by simp; omega
         have d4 : decide ((57 : Int) < (s[k].toNat : Int)) = true := by simp; omega
         have d5 : ((s[k].toNat : Int) == 95) = false := by first | (rw [beq_iff_eq]; omega) | (rw [beq_eq_false_iff_ne]; omega)
         clear hc
         go_wp2_with fail
         go_ret
         exact ⟨by rw [HR.out]; rfl, rfl⟩
        ·have d1 : decide ((s[k].toNat : Int) < 97) = true := by simp; omega
         have d3 : decide ((s[k].toNat : Int) < 48) = false := by simp; omega
         have d4 : decide ((57 : Int) < (s[k].toNat : Int)) = true := by simp; omega
         have d5 : ((s[k].toNat : Int) == 95) = false := by first | (rw [beq_iff_eq]; omega) | (rw [beq_eq_false_iff_ne]; omega)
         clear hc
         go_wp2_with fail
         go_ret
         exact ⟨by rw [HR.out]; rfl, rfl⟩
        ·have d1 : decide ((s[k].toNat : Int) < 97) = false := by simp; omega
         have d2 : decide ((122 : Int) < (s[k].toNat : Int)) = true := by simp; omega
         have d3 : decide ((s[k].toNat : Int) < 48) = false := by simp; omega
         have d4 : decide ((57 : Int) < (s[k].toNat : Int)) = true := by simp; omega
         have d5 : ((s[k].toNat : Int) == 95) = false := by first | (rw [beq_iff_eq]; omega) | (rw [beq_eq_false_iff_ne]; omega)
         clear hc
         go_wp2_with fail
         go_ret
         exact ⟨by rw [HR.out]; rfl, rfl⟩
      ·have he : k = s.size := by omega
       subst he
       have hall := HA.out
       rw [List.take_of_length_le (by rw [byt_len]; omega)] at hall
       have HR : Hid (R = true) := Lib.hid (by rw [HR0.out]; exact hall)
       clear hall
       go_wp2_with fail
       go_ret
       exact ⟨by rw [HR.out]; rfl, rfl⟩
set_option maxRecDepth 100000 in
theorem rvariable (s : ByteArray) (w : World) :
  Calls Tryz.prog 45 #[.string s] w fun e w' => e = .returned (.bool (varOk (byt s))) ∧ Below w.heap.size w w' := by
 have N := Lib.hid (fun W => rname s W)
 have D := Lib.hid (fun W => rword s W)
 obtain ⟨R, hR⟩ : ∃ R, varOk (byt s) = R := ⟨_, rfl⟩
 rw [hR]
 unfold varOk at hR
 obtain ⟨A, hA⟩ : ∃ A, nmOk (byt s) = A := ⟨_, rfl⟩
 obtain ⟨B, hB⟩ : ∃ B, wrd (byt s) = B := ⟨_, rfl⟩
 rw [hA, hB] at hR
 have N2 := N.out; have D2 := D.out
 rw [hA] at N2
 rw [hB] at D2
 have N := Lib.hid N2
 have D := Lib.hid D2
 have HR := Lib.hid hR
 clear N2 D2 hA hB hR
 cases A with
 | false =>
  go_enter Tryz.func45, Tryz.ntmps45
  go_wp2_with fail
  refine (N.out _).mono ?_
  rintro r w1 ⟨rfl, rfl⟩
  go_wp2_with fail
  go_ret
  exact ⟨by rw [← HR.out]; rfl, bref _⟩
 | true =>
  cases B
  all_goals
   go_enter Tryz.func45, Tryz.ntmps45
   go_wp2_with fail
   refine (N.out _).mono ?_
   rintro r w1 ⟨rfl, rfl⟩
   go_wp2_with fail
   refine (D.out _).mono ?_
   rintro r w2 ⟨rfl, hb2⟩
   go_wp2_with fail
   go_ret
   exact ⟨by rw [← HR.out]; rfl, hb2⟩
end Go.Proofs.YthanoilbcdhbkaaGreatDoor
