/-
  Tokens: a contract of package token's Percent.
-/
import Derived.Test.YtplkphihmfhciaaGreatDoorMC
import Derived.Test.YtplkphihmfhciaaGreatDoorME
import Derived.Lib.AppendIntMem
import Derived.Lib.LaidTab
namespace Go.Proofs.YtplkphihmfhciaaGreatDoor
open Go Go.RowKit Go.Lib WM TM

def Tb (w : World) : Prop := Lib.TabIs Tryz.prog w "internal/strconv.uint64pow10" .u64 Lib.pow10Tab
theorem Tb.keep {w w' : World} (h : Tb w) (hb : Below w.heap.size w w') : Tb w' := Lib.tabBelow_of_tabIs h w' hb
theorem itoa_nat (k : Nat) : itoa (k : Int) = decDigits k := by
 unfold itoa
 rw [if_neg (by omega)]
 simp
theorem mitoa (k : Nat) (hk : k ≤ 2000000) (w : World) (hT : Tb w) :
  Calls Tryz.prog 78 #[.int .i64 (k : Int)] w fun e w' => e = .returned (.string (str (decDigits k))) ∧ Below w.heap.size w w' := by
 refine (Tryz.strconv_Itoa (k : Int) (by omega) (by omega) w hT).mono fun e w' ⟨he, k', os, hw⟩ => ⟨?_, by rw [hw]; exact Lib.below_grow w.heap.size w (Nat.le_refl _) k' os⟩
 rw [he, itoa_nat]; rfl
theorem mtrim (s : ByteArray) (hs : s.size ≤ 9223372036854775807) (w : World) :
  Calls Tryz.prog 108 #[.string s, .string ⟨#[48]⟩] w fun e w' => e = .returned (.string (str (trimRightB (byt s) 48))) ∧ w = w' :=
 (Tryz.strings_TrimRight_one s 48 (by decide) w hs).mono fun _ _ ⟨he, hw⟩ => ⟨he, hw.symm⟩

theorem dec_small3 (Q : Nat) (h : Q ≤ 100) : (decDigits Q).length ≤ 3 := by
 rw [← dec_wid Q h, pd_length]
 unfold wid
 split
 ·omega
 ·split <;> omega
theorem fr_len (R : Nat) : (fr R).length ≤ 4 := by
 have h := congrArg List.length (fr_parts R).2
 rw [List.length_append, pd_length] at h
 omega
set_option maxRecDepth 100000 in
set_option maxHeartbeats 2000000 in
theorem mpercent (n : Int) (w : World) (hT : Tb w) :
  Calls Tryz.prog 79 #[.int .i64 n] w fun e w' => e = .returned (.tuple #[.string (str (pV n)), .int .i64 (pE n)]) ∧ Below w.heap.size w w' := by
 by_cases h0 : n < 0
 ·have e1 : pE n = 1 := by unfold pE; rw [if_neg (by omega)]
  have e2 : pV n = [] := by unfold pV; rw [if_neg (by omega)]
  rw [e1, e2, str_nil]
  clear e1 e2 hT
  go_enter Tryz.func79, Tryz.ntmps79
  go_wp2_with fail
  go_ret2
  exact ⟨rfl, bref _⟩
 by_cases h1 : 1000000 < n
 ·have e1 : pE n = 1 := by unfold pE; rw [if_neg (by omega)]
  have e2 : pV n = [] := by unfold pV; rw [if_neg (by omega)]
  rw [e1, e2, str_nil]
  clear e1 e2 hT
  go_enter Tryz.func79, Tryz.ntmps79
  go_wp2_with fail
  go_ret2
  exact ⟨rfl, bref _⟩
 obtain ⟨m, rfl⟩ : ∃ m : Nat, n = m := ⟨n.toNat, by omega⟩
 have e1 : pE (m : Int) = 0 := by unfold pE; rw [if_pos (by omega)]
 have e2 : pV (m : Int) = decDigits (m / 10000) ++ tl (fr (m % 10000)) ++ [37] := by
  unfold pV; rw [if_pos (by omega)]; rfl
 rw [e1, e2]
 have hq : (m : Int).tdiv 10000 = ((m / 10000 : Nat) : Int) := by rw [Int.tdiv_eq_ediv_of_nonneg (by omega)]; omega
 have hr : (m : Int).tmod 10000 = ((m % 10000 : Nat) : Int) := by rw [Int.tmod_eq_emod_of_nonneg (by omega)]; omega
 obtain ⟨Q, hQ⟩ : ∃ Q, m / 10000 = Q := ⟨_, rfl⟩
 obtain ⟨R, hR⟩ : ∃ R, m % 10000 = R := ⟨_, rfl⟩
 have hR4 : R < 10000 := by rw [← hR]; exact Nat.mod_lt _ (by decide)
 rw [hQ] at hq ⊢
 rw [hR] at hr ⊢
 have hwQ : wrap64 (Q : Int) = (Q : Int) := by unfold wrap64; omega
 have ha : wrap64 (10000 + (R : Int)) = ((10000 + R : Nat) : Int) := by unfold wrap64; omega
 have I1 := Lib.hid (fun W hT => mitoa Q (by omega) W hT)
 have I2 := fun W hT => mitoa (10000 + R) (by omega) W hT
 have hdl : (str (decDigits (10000 + R))).size = 5 := by
  rw [str_size, show (10000 : Nat) = 10 ^ 4 from rfl, dec_lead 4 R hR4, List.length_cons, pd_length]
 have hcut : (str (decDigits (10000 + R))).extract 1 (str (decDigits (10000 + R))).size = str (pd 4 R) := by
  rw [← str_byt ((str (decDigits (10000 + R))).extract 1 (str (decDigits (10000 + R))).size), str_cut, byt_str, str_list, str_size, List.take_length, dec_pd4 R hR4]
 obtain ⟨S, hS⟩ : ∃ S, str (decDigits (10000 + R)) = S := ⟨_, rfl⟩
 rw [hS] at I2 hdl hcut
 have T1 := fun W => mtrim (str (pd 4 R)) (by rw [str_size, pd_length]; omega) W
 rw [byt_str] at T1
 have hfr : trimRightB (pd 4 R) 48 = fr R := rfl
 rw [hfr] at T1
 have hdz : (1 : Int) ≤ (S.size : Int) := by omega
 clear hdl
 obtain ⟨P, hP⟩ : ∃ P, str (pd 4 R) = P := ⟨_, rfl⟩
 rw [hP] at hcut T1
 have hI2 := Lib.hid I2
 have HT1 := Lib.hid T1
 have HT := Lib.hid hT
 obtain ⟨D, hD⟩ : ∃ D, str (decDigits Q) = D := ⟨_, rfl⟩
 have hDs : D.size ≤ 3 := by rw [← hD, str_size]; exact dec_small3 Q (by omega)
 have I1' := I1.out
 rw [hD] at I1'
 have I3 := Lib.hid I1'
 by_cases hf : fr R = []
 ·have hout : Hid (str (decDigits Q ++ tl (fr R) ++ [37]) = D ++ ⟨#[37]⟩) := Lib.hid (by
   rw [← hD, hf]
   show _ = str (decDigits Q) ++ str [37]
   rw [str_app]; simp [tl])
  rw [hout.out]
  rw [hf, str_nil] at T1
  have HT2 := Lib.hid T1
  clear I1 I2 T1 hQ hR hS hP hD hT e1 e2 hf hfr HT1 I1' hR4
  go_enter Tryz.func79, Tryz.ntmps79
  go_wp2_with fail
  refine (I3.out _ HT.out).mono ?_
  rintro e w1 ⟨rfl, q1⟩
  have Q1 := Lib.hid q1
  clear q1
  go_wp2_with fail
  refine (hI2.out _ (HT.out.keep Q1.out)).mono ?_
  rintro e w2 ⟨rfl, q2⟩
  have Q2 := Lib.hid (btr Q1.out q2)
  clear q2
  go_wp2_with fail
  refine (HT2.out _).mono ?_
  rintro e w3 ⟨rfl, rfl⟩
  go_wp2_with fail
  go_ret2
  exact ⟨rfl, Q2.out⟩
 ·have hfe : (str (fr R)).toList.isEmpty = false := by
   rw [toList_data, str_list]
   cases h : fr R with
   | nil => exact absurd h hf
   | cons c t => rfl
  obtain ⟨F, hF⟩ : ∃ F, str (fr R) = F := ⟨_, rfl⟩
  have hFs : F.size ≤ 4 := by rw [← hF, str_size]; exact fr_len R
  have hout : Hid (str (decDigits Q ++ tl (fr R) ++ [37]) = D ++ (⟨#[46]⟩ ++ F) ++ ⟨#[37]⟩) := Lib.hid (by
   rw [← hD, ← hF]
   show _ = str (decDigits Q) ++ (str [46] ++ str (fr R)) ++ str [37]
   rw [str_app, str_app, str_app]
   unfold tl
   rw [if_neg hf]; rfl)
  rw [hout.out]
  rw [hF] at T1 hfe
  have HT2 := Lib.hid T1
  clear I1 I2 T1 hQ hR hS hP hD hT e1 e2 hf hfr hF HT1 I1' hR4
  go_enter Tryz.func79, Tryz.ntmps79
  go_wp2_with fail
  refine (I3.out _ HT.out).mono ?_
  rintro e w1 ⟨rfl, q1⟩
  have Q1 := Lib.hid q1
  clear q1
  go_wp2_with fail
  refine (hI2.out _ (HT.out.keep Q1.out)).mono ?_
  rintro e w2 ⟨rfl, q2⟩
  have Q2 := Lib.hid (btr Q1.out q2)
  clear q2
  go_wp2_with fail
  refine (HT2.out _).mono ?_
  rintro e w3 ⟨rfl, rfl⟩
  go_wp2_with fail
  go_ret2
  exact ⟨rfl, Q2.out⟩
end Go.Proofs.YtplkphihmfhciaaGreatDoor
