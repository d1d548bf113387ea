/-
  The contract of package money's Format.
-/
import Derived.Test.YtkijbckpfcfcpabDoorMParse
import Derived.Lib.Walk
import Derived.Lib.ItoaMem
import Derived.Lib.ItoaWalk
import Derived.Lib.AppendIntMem
import Derived.BigCall
import Derived.BigGuard
namespace Go.Proofs.YtkijbckpfcfcpabDoor
open Go Go.RowKit Go.Lib WM

/-- The library's table of the powers of ten reads as its text lays it. -/
def Tb (w : World) : Prop := Lib.TabIs Tryd.prog w "internal/strconv.uint64pow10" .u64 Lib.pow10Tab
theorem Tb.keep {w w' : World} (h : Tb w) (hb : Below w.heap.size w w') : Tb w' := Lib.tabBelow_of_tabIs h w' hb
theorem mitoa (n : Nat) (hn : n ≤ 1000000000000) (w : World) (ht : Tb w) :
    Calls Tryd.prog 29 #[.int .i64 n] w fun e w' => e = .returned (.string (str (decDigits n))) ∧ Below w.heap.size w w' := by
  refine (Tryd.strconv_Itoa n (by omega) (by omega) w ht).mono fun e w' ⟨he, k, os, hw⟩ => ⟨?_, by rw [hw]; exact Lib.below_grow w.heap.size w (Nat.le_refl _) k os⟩
  rw [he]
  have : itoa (n : Int) = decDigits n := by unfold itoa; rw [if_neg (by omega), Int.toNat_natCast]
  rw [this]; rfl

set_option maxRecDepth 100000 in
set_option maxHeartbeats 1000000 in
theorem mpointed (n d : Nat) (hn : n ≤ 1000000000000) (hd : d ≤ 4) (w : World) :
    Calls Tryd.prog 28 #[.string (str (decDigits n)), .int .i64 d] w fun e w' => e = .returned (.string (str (pointed n d))) ∧ Below w.heap.size w w' := by
  obtain ⟨T, hT⟩ : ∃ T, str (decDigits n) = T := ⟨_, rfl⟩
  by_cases h0 : d = 0
  · subst h0
    have HR : Hid (str (pointed n 0) = T) := Lib.hid (by rw [← hT]; unfold pointed; rw [if_pos rfl])
    rw [hT]
    clear hT
    go_enter Tryd.func28, Tryd.ntmps28
    go_wp2_with fail
    go_ret
    exact ⟨by rw [HR.out]; rfl, bref _⟩
  · have hz0 : ((d : Int) == 0) = false := by rw [beq_eq_false_iff_ne]; omega
    have hn0 : ¬ (d : Int) = 0 := by omega
    have hL1 := nDigits_pos n
    have hL2 : nDigits n ≤ 13 := nDigits_le 12 n (by have e10 : (10 : Nat) ^ (12 + 1) = 10000000000000 := by decide
                                                     omega)
    have hTs : T.size = nDigits n := by rw [← hT, str_size, decDigits_length]
    obtain ⟨L, hL⟩ : ∃ L, nDigits n = L := ⟨_, rfl⟩
    have hpe := padded_eq d n
    have hql : (decDigits (n / 10 ^ d)).length + d = d + 1 - L + L := by
      have := congrArg List.length hpe
      rw [List.length_append, List.length_append, List.length_replicate, decDigits_length, pad_length, hL] at this
      omega
    rw [hL] at hTs hL1 hL2 hpe
    have RP := fun W => Tryd.strings_Repeat ⟨#[48]⟩ (d + 1 - L) W (by omega) (by rw [show (⟨#[48]⟩ : ByteArray).size = 1 from rfl]; omega)
    simp only [show (⟨#[48]⟩ : ByteArray).data.toList = [48] from rfl, repeat_one] at RP
    obtain ⟨Z, hZ⟩ : ∃ Z, (⟨(List.replicate (d + 1 - L) 48).toArray⟩ : ByteArray) = Z := ⟨_, rfl⟩
    have hZs : Z.size = d + 1 - L := by rw [← hZ]; simp [ByteArray.size]
    have hM : Z ++ T = str (decDigits (n / 10 ^ d) ++ pad d n) := by
      rw [← hZ, ← hT, ← hpe]; exact str_app _ _
    simp only [hZ] at RP
    obtain ⟨p, hp⟩ : ∃ p, (decDigits (n / 10 ^ d)).length = p := ⟨_, rfl⟩
    rw [hp] at hql
    have hX : (Z ++ T).extract 0 p = str (decDigits (n / 10 ^ d)) := by
      rw [hM, str_cut, str_list, List.drop_zero, ← hp, List.take_left]
    have hY : (Z ++ T).extract p (Z ++ T).size = str (pad d n) := by
      rw [hM, str_cut, str_list, str_size, List.take_length, ← hp, List.drop_left]
    have HR : Hid (str (pointed n d) = (Z ++ T).extract 0 p ++ ⟨#[46]⟩ ++ (Z ++ T).extract p (Z ++ T).size) := Lib.hid (by
      rw [hX, hY, show (⟨#[46]⟩ : ByteArray) = str [46] from rfl, str_app, str_app]
      unfold pointed; rw [if_neg h0, List.append_assoc]; rfl)
    have hMs : (Z ++ T).size = Z.size + T.size := by rw [ByteArray.size_append]
    have RP := Lib.hid RP
    rw [hT]
    clear hT hX hY hM hZ hpe hp
    go_enter Tryd.func28, Tryd.ntmps28
    go_wp2_with fail
    rw [show max 0 ((d : Int) + 1 - L) = ((d + 1 - L : Nat) : Int) by omega]
    refine (RP.out _).mono ?_
    rintro e w1 ⟨rfl, q1⟩
    have hMp : ((Z ++ T).size : Int) - d = p := by rw [hMs, hZs, hTs]; omega
    have hps : p ≤ (Z ++ T).size := by rw [hMs, hZs, hTs]; omega
    have hMl : (Z ++ T).size ≤ 18 := by rw [hMs, hZs, hTs]; omega
    obtain ⟨M, hMM⟩ : ∃ M, Z ++ T = M := ⟨_, rfl⟩
    rw [hMM] at hMp hps hMl HR
    have HM := Lib.hid hMM
    have HMs := Lib.hid hMs
    clear hMM hMs
    go_wp2_with fail
    rw [show ((d + 1 - L : Nat) : Int) + L - d = (p : Int) by omega, HM.out]
    have hps2 : (p : Int) ≤ (M.size : Int) := by omega
    have hxs : (M.extract 0 p).size ≤ 18 := by rw [ByteArray.size_extract]; omega
    have hys : (M.extract p M.size).size ≤ 18 := by rw [ByteArray.size_extract]; omega
    go_quiet (fail)
    go_wp2_with fail
    go_ret
    exact ⟨by rw [HR.out]; rfl, bdn q1 _⟩

set_option maxRecDepth 100000 in
set_option maxHeartbeats 1000000 in
theorem mformat (a d : Int) (w : World) (ht : Tb w) :
    Calls Tryd.prog 23 #[.int .i64 a, .int .i64 d] w fun e w' => e = .returned (.tuple #[.string (str (fmtL a d)), .int .i64 (fmtE a d)]) ∧ Below w.heap.size w w' := by
  have V := fun W => mvalid a W
  have D := fun W => mdigits d W
  cases hv : amtB a
  · have HR : Hid (fmtL a d = [] ∧ fmtE a d = 1) := Lib.hid (by unfold fmtL fmtE; rw [hv, Bool.false_and]; exact ⟨rfl, rfl⟩)
    simp only [hv] at V
    have V := Lib.hid V
    clear hv D
    go_enter Tryd.func23, Tryd.ntmps23
    go_wp2_with fail
    refine (V.out _).mono ?_
    rintro e w1 ⟨rfl, rfl⟩
    go_wp2_with fail
    go_ret2
    exact ⟨by rw [HR.out.1, HR.out.2]; rfl, bref _⟩
  · cases hp : plB d
    · have HR : Hid (fmtL a d = [] ∧ fmtE a d = 1) := Lib.hid (by unfold fmtL fmtE; rw [hv, hp, Bool.and_false]; exact ⟨rfl, rfl⟩)
      simp only [hv] at V; simp only [hp] at D
      have V := Lib.hid V; have D := Lib.hid D
      clear hv hp
      go_enter Tryd.func23, Tryd.ntmps23
      go_wp2_with fail
      refine (V.out _).mono ?_
      rintro e w1 ⟨rfl, rfl⟩
      go_wp2_with fail
      refine (D.out _).mono ?_
      rintro e w1 ⟨rfl, rfl⟩
      go_wp2_with fail
      go_ret2
      exact ⟨by rw [HR.out.1, HR.out.2]; rfl, bref _⟩
    · have hd : 0 ≤ d ∧ d ≤ 4 := by simpa [plB] using hp
      have ha : -1000000000000 ≤ a ∧ a ≤ 1000000000000 := by simpa [amtB] using hv
      obtain ⟨n, rfl⟩ : ∃ n : Nat, d = n := ⟨d.toNat, by omega⟩
      have hE : fmtE a n = 0 := by unfold fmtE; rw [hv, hp]; rfl
      have hL : fmtL a n = (if a < 0 then 45 :: pointed a.natAbs n else pointed a.natAbs n) := by unfold fmtL; rw [hv, hp, if_pos (by decide), Int.toNat_natCast]
      obtain ⟨m, hm⟩ : ∃ m, a.natAbs = m := ⟨_, rfl⟩
      have hm1 : m ≤ 1000000000000 := by omega
      have hmax : max a (-a) = (m : Int) := by omega
      rw [hm] at hL
      have I := fun W hT => mitoa m hm1 W hT
      have P := fun W => mpointed m n hm1 (by omega) W
      have hlen : (pointed m n).length ≤ 40 := by
        unfold pointed
        have h1 : nDigits m ≤ 13 := nDigits_le 12 m (by have e10 : (10 : Nat) ^ (12 + 1) = 10000000000000 := by decide
                                                        omega)
        split
        · rw [decDigits_length]; omega
        · rw [List.length_append, List.length_cons, pad_length, decDigits_length]
          have h2 : nDigits (m / 10 ^ n) ≤ 13 := nDigits_le 12 _ (by
            have e10 : (10 : Nat) ^ (12 + 1) = 10000000000000 := by decide
            have := Nat.div_le_self m (10 ^ n)
            omega)
          omega
      obtain ⟨T, hT⟩ : ∃ T, str (decDigits m) = T := ⟨_, rfl⟩
      obtain ⟨X, hX⟩ : ∃ X, str (pointed m n) = X := ⟨_, rfl⟩
      have hXs : X.size ≤ 40 := by rw [← hX, str_size]; exact hlen
      rw [hT] at I P
      rw [hX] at P
      simp only [hv] at V; simp only [hp] at D
      have V := Lib.hid V; have D := Lib.hid D; have I := Lib.hid I; have P := Lib.hid P
      rw [hE]
      by_cases hneg : a < 0
      · have HR : Hid (str (fmtL a n) = ⟨#[45]⟩ ++ X) := Lib.hid (by rw [hL, if_pos hneg, ← hX, show (⟨#[45]⟩ : ByteArray) = str [45] from rfl, str_app]; rfl)
        clear hv hp hE hL hX hT hm hlen
        go_enter Tryd.func23, Tryd.ntmps23
        go_wp2_with fail
        refine (V.out _).mono ?_
        rintro e w1 ⟨rfl, rfl⟩
        go_wp2_with fail
        refine (D.out _).mono ?_
        rintro e w1 ⟨rfl, rfl⟩
        go_wp2_with fail
        refine (I.out _ ht).mono ?_
        rintro e w2 ⟨rfl, q2⟩
        go_wp2_with fail
        refine (P.out _).mono ?_
        rintro e w3 ⟨rfl, q3⟩
        have Z3 := btr q2 q3
        go_wp2_with fail
        go_ret2
        exact ⟨by rw [HR.out]; rfl, Z3⟩
      · have HR : Hid (str (fmtL a n) = ⟨#[]⟩ ++ X) := Lib.hid (by rw [hL, if_neg hneg, ← hX, show (⟨#[]⟩ : ByteArray) = str [] from rfl, str_app]; rfl)
        have hemp : (⟨#[]⟩ : ByteArray) ++ X = X := by rw [← hX, show (⟨#[]⟩ : ByteArray) = str [] from rfl, str_app]; rfl
        have HEM := Lib.hid hemp
        clear hv hp hE hL hX hT hm hlen hemp
        go_enter Tryd.func23, Tryd.ntmps23
        go_wp2_with fail
        refine (V.out _).mono ?_
        rintro e w1 ⟨rfl, rfl⟩
        go_wp2_with fail
        refine (D.out _).mono ?_
        rintro e w1 ⟨rfl, rfl⟩
        go_wp2_with fail
        refine (I.out _ ht).mono ?_
        rintro e w2 ⟨rfl, q2⟩
        go_wp2_with fail
        refine (P.out _).mono ?_
        rintro e w3 ⟨rfl, q3⟩
        have Z3 := btr q2 q3
        go_wp2_with fail
        go_ret2
        exact ⟨by rw [HR.out]; rfl, Z3⟩
end Go.Proofs.YtkijbckpfcfcpabDoor
