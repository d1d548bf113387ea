/-
  Numbers as the document writes and reads them: contracts of its Int, Natural and TakeInt.
-/
import Derived.Test.YtplkphihmfhciaaGreatDoorTY
namespace Go.Proofs.YtplkphihmfhciaaGreatDoor
open Go Go.RowKit Go.Lib WM

theorem str_isEmpty (s : List UInt8) : (str s).toList.isEmpty = s.isEmpty := by rw [Lib.toList_data, str_list]
theorem ofInt_toNat (x : Int) (hx : 0 ≤ x ∧ x < 18446744073709551616) : ((BitVec.ofInt 64 x).toNat : Int) = x := by
 rw [BitVec.toNat_ofInt]; omega
theorem u64_not (x : Int) (hx : 0 ≤ x ∧ x < 18446744073709551616) : bits .xor .u64 IntKind.u64.max x = 18446744073709551615 - x := by
 have h : bits .xor .u64 IntKind.u64.max x = IntKind.u64.wrap ((BitVec.ofInt 64 IntKind.u64.max ^^^ BitVec.ofInt 64 x).toNat : Int) := rfl
 have e : BitVec.ofInt 64 IntKind.u64.max = BitVec.allOnes 64 := by decide
 rw [h, e, BitVec.allOnes_xor, BitVec.toNat_not, IntKind.wrap_u64]
 have h2 := ofInt_toNat x hx
 omega
set_option maxRecDepth 100000 in
set_option maxHeartbeats 1000000 in
theorem rnatural (M : Nat) (hM : M < 18446744073709551616) (w : World) :
  Calls Tryz.prog 109 #[.int .u64 M] w fun e w' => e = .returned (.string (str (decDigits M))) ∧ w = w' := by
 have HM := Lib.hid hM
 clear hM
 go_enter Tryz.func109, Tryz.ntmps109
 go_wp2
 go_loopg [0, 3] (M + 1) (fun g n x wr => ∃ (m : Nat) (s : List UInt8), g = (if m = 0 ∧ s ≠ [] then 0 else m + 1) ∧ n = .int .u64 m ∧ x = .string (str s) ∧ m < 18446744073709551616 ∧ TextAt M m s ∧ wr = w)
 case atStart => exact ⟨M, [], by simp, rfl, rfl, HM.out, text_start M, rfl⟩
 case round =>
  obtain ⟨m, s, hg, rfl, rfl, hm, hT, rfl⟩ := hrel
  have hsl := text_len hT HM.out
  have hsz : (str s).size ≤ 20 := by rw [str_size]; exact hsl
  obtain ⟨S, hS⟩ : ∃ S, str s = S := ⟨_, rfl⟩
  have hemp : S.toList.isEmpty = s.isEmpty := by rw [← hS]; exact str_isEmpty s
  rw [hS] at hsz
  simp only [hS]
  obtain ⟨r, hr⟩ : ∃ r : Nat, m % 10 = r := ⟨_, rfl⟩
  obtain ⟨q, hq⟩ : ∃ q : Nat, m / 10 = q := ⟨_, rfl⟩
  have hr9 : r < 10 := by omega
  have hrz : (r : Int) + 1 ≤ 10 := by omega
  have e1 : (m : Int) % 10 = (r : Int) := by omega
  have e2 : (m : Int) / 10 = (q : Int) := by omega
  have hcs : ((⟨#[48, 49, 50, 51, 52, 53, 54, 55, 56, 57]⟩ : ByteArray).extract r (r + 1)).size ≤ 1 := by rw [ByteArray.size_extract]; omega
  rcases text_more hT with hgo | ⟨h1, h2, h3⟩
  ·have hcase : (S.toList.isEmpty = true) ∨ (S.toList.isEmpty = false ∧ (0 : Int) < (m : Int)) := by
    rw [hemp]
    cases hq : s.isEmpty
    ·have hne : s ≠ [] := by intro h; rw [h] at hq; simp at hq
     exact Or.inr ⟨rfl, by rcases hgo with h | h; exact absurd h hne; omega⟩
    ·exact Or.inl rfl
   have HN : Hid (TextAt M q (UInt8.ofNat (48 + m % 10) :: s)) := Lib.hid (by rw [← hq]; exact text_step hT hgo)
   have HG : Hid ((if q = 0 then 0 else q + 1) < gk) := Lib.hid (text_down hg hgo hq)
   have HE : Hid ((⟨#[48, 49, 50, 51, 52, 53, 54, 55, 56, 57]⟩ : ByteArray).extract r (r + 1) ++ S = str (UInt8.ofNat (48 + m % 10) :: s)) := Lib.hid (by
    rw [ten_piece r hr9, ← hS, str_app, hr]; rfl)
   have HQ := Lib.hid (show q < 18446744073709551616 by omega)
   clear hgo hT hS hr hq hg hemp
   rcases hcase with h1 | ⟨h1, h2⟩
   all_goals
    go_wp2_with fail
    go_roundg (if q = 0 then 0 else q + 1)
    case measure => exact HG.out
    case rel => exact ⟨q, _, by simp, by go_num, by rw [HE.out], HQ.out, HN.out, rfl⟩
  ·have hE : S.toList.isEmpty = false := by rw [hemp]; cases s; exact absurd rfl h1; rfl
   have HR : Hid (S = str (decDigits M)) := Lib.hid (by rw [← hS, h3])
   have h2z : ¬ (0 : Int) < (m : Int) := by omega
   clear hT hS hr hq hg hemp h1 h2 h3
   go_wp2_with fail
   go_ret
   exact ⟨by rw [HR.out]; rfl, rfl⟩
theorem rint (n : Int) (hn : I64 n) (w : World) :
  Calls Tryz.prog 80 #[.int .i64 n] w fun e w' => e = .returned (.string (str (itoa n))) ∧ w = w' := by
 obtain ⟨h0, h1⟩ := hn
 by_cases c : 0 ≤ n
 ·obtain ⟨M, rfl⟩ : ∃ M : Nat, n = M := ⟨n.toNat, by omega⟩
  have R := Lib.hid (fun W => rnatural M (by omega) W)
  have HR : Hid (itoa (M : Int) = decDigits M) := Lib.hid (by unfold itoa; rw [if_neg (by omega), Int.toNat_natCast])
  have hw : IntKind.u64.wrap (M : Int) = (M : Int) := by rw [IntKind.wrap_u64]; omega
  go_enter Tryz.func80, Tryz.ntmps80
  go_wp2_with fail
  refine (R.out _).mono ?_
  rintro e w1 ⟨rfl, rfl⟩
  go_wp2_with fail
  go_ret
  exact ⟨by rw [HR.out]; rfl, rfl⟩
 ·obtain ⟨M, hM⟩ : ∃ M : Nat, n = -(M : Int) := ⟨n.natAbs, by omega⟩
  have hM1 : 1 ≤ M := by omega
  have hM2 : M < 18446744073709551616 := by omega
  have R := Lib.hid (fun W => rnatural M hM2 W)
  have hds : (str (decDigits M)).size ≤ 20 := by rw [str_size, decDigits_length]; exact nDigits_20 M hM2
  have HR : Hid (str (itoa n) = ⟨#[45]⟩ ++ str (decDigits M)) := Lib.hid (by
   have : itoa n = 45 :: decDigits M := by unfold itoa; rw [if_pos (by omega), show n.natAbs = M by omega]
   rw [this, show (⟨#[45]⟩ : ByteArray) = str [45] from rfl, str_app]; rfl)
  have hw : IntKind.u64.wrap n = 18446744073709551616 - (M : Int) := by rw [IntKind.wrap_u64]; omega
  have hx : bits .xor .u64 IntKind.u64.max (18446744073709551616 - (M : Int)) = (M : Int) - 1 := by
   rw [u64_not _ (by omega)]; omega
  have hy : IntKind.u64.wrap (M : Int) = (M : Int) := by rw [IntKind.wrap_u64]; omega
  obtain ⟨T, hT⟩ : ∃ T, str (decDigits M) = T := ⟨_, rfl⟩
  have R1 := R.out; have HR1 := HR.out
  rw [hT] at R1 HR1 hds
  have R2 := Lib.hid R1; have HR2 := Lib.hid HR1
  clear hM hT R HR R1 HR1
  go_enter Tryz.func80, Tryz.ntmps80
  go_wp2_with fail
  refine (R2.out _).mono ?_
  rintro e w1 ⟨rfl, rfl⟩
  go_wp2_with fail
  go_ret
  exact ⟨by rw [HR2.out]; rfl, rfl⟩

theorem dig_not (s : ByteArray) (k : Nat) (h : k < s.size) (hd : dig s[k] = false) : allDig s.data.toList = false := by
 cases h' : allDig s.data.toList
 ·rfl
 ·unfold allDig at h'
  rw [List.all_eq_true] at h'
  have h2 : s[k] ∈ s.data.toList := by
   have : s[k] = s.data.toList[k]'(by rw [size_list]; exact h) := rfl
   rw [this]; exact List.getElem_mem _
  rw [h' _ h2] at hd; cases hd
theorem dig_at (s : ByteArray) (k : Nat) (h : k < s.size) (ha : allDig s.data.toList = true) : 48 ≤ (s[k].toNat : Int) ∧ (s[k].toNat : Int) ≤ 57 := by
 unfold allDig at ha
 rw [List.all_eq_true] at ha
 have h2 : s[k] ∈ s.data.toList := by
  have : s[k] = s.data.toList[k]'(by rw [size_list]; exact h) := rfl
  rw [this]; exact List.getElem_mem _
 simpa [dig] using ha _ h2
theorem allDig_next (s : ByteArray) (k : Nat) (h : k < s.size) (ha : allDig (s.data.toList.take k) = true) (hd : dig s[k] = true) : allDig (s.data.toList.take (k + 1)) = true := by
 rw [WM.take_snoc s k h, allDig_snoc, ha, hd]; rfl
theorem forms (U : ByteArray) (G : Bool) : (U = ⟨#[]⟩ ∧ shortB U.data.toList G = false) ∨ (U = ⟨#[48]⟩ ∧ (shortB U.data.toList G && allDig U.data.toList) = !G) ∨
  (∃ h : 0 < U.size, U[0] = 48 ∧ (¬ U.toList = [] ∧ ¬ U.toList = [48]) ∧ shortB U.data.toList G = false) ∨ (∃ h : 0 < U.size, U[0] ≠ 48 ∧ (¬ U.toList = [] ∧ ¬ U.toList = [48]) ∧ shortB U.data.toList G = true) := by
 obtain ⟨⟨l⟩⟩ := U
 cases l with
 | nil => exact Or.inl ⟨rfl, rfl⟩
 | cons c t =>
  have h0 : 0 < (ByteArray.mk ⟨c :: t⟩).size := by simp [ByteArray.size]
  by_cases hc : c = 48
  ·subst hc
   cases t with
   | nil => exact Or.inr (Or.inl ⟨rfl, by cases G <;> rfl⟩)
   | cons d t => exact Or.inr (Or.inr (Or.inl ⟨h0, rfl, by rw [Lib.toList_data]; simp, by cases G <;> rfl⟩))
  ·refine Or.inr (Or.inr (Or.inr ⟨h0, hc, by rw [Lib.toList_data]; simp [hc], ?_⟩))
   show ((c != 48) || (t.isEmpty && !G)) = true
   have : (c != 48) = true := by rw [bne_iff_ne]; exact hc
   rw [this]; rfl
set_option maxRecDepth 100000 in
set_option maxHeartbeats 1000000 in
theorem rnat_text (s : ByteArray) (hs : s.size ≤ 9223372036854775806) (w : World) :
  Calls Tryz.prog 125 #[.string s] w fun e w' => e = .returned (.bool (shortB s.data.toList false && allDig s.data.toList)) ∧ w = w' := by
 obtain ⟨R, hR⟩ : ∃ R, (shortB s.data.toList false && allDig s.data.toList) = R := ⟨_, rfl⟩
 rw [hR]
 have HT := Lib.hid hR
 have HF := Lib.hid (forms s false)
 clear hR
 go_enter Tryz.func125, Tryz.ntmps125
 go_wp2_with fail
 go_loop [3] (fun i => ∃ k : Nat, k ≤ s.size ∧ i = .int .i64 k ∧ allDig (s.data.toList.take k) = true) (fun i => s.size - (RowKit.intOf i).toNat)
 case atStart => exact ⟨0, by omega, rfl, rfl⟩
 case round =>
  obtain ⟨k, hk, rfl, hall⟩ := hrel
  have HA := Lib.hid hall
  clear hall
  by_cases hlt : k < s.size
  ·have hkz : (k : Int) < (s.size : Int) := by omega
   cases hc : dig s[k]
   ·have HN : Hid (R = false) := Lib.hid (by rw [← HT.out, dig_not s k hlt hc, Bool.and_false])
    simp only [dig, decide_eq_false_iff_not] at hc
    by_cases h65 : (s[k].toNat : Int) < 48
    ·have hd1 : decide ((s[k].toNat : Int) < 48) = true := by simpa using h65
     clear hc
     go_wp2_with fail
     go_ret
     exact ⟨by rw [HN.out]; rfl, rfl⟩
    ·have h90 : (57 : Int) < (s[k].toNat : Int) := by omega
     have hd1 : decide ((s[k].toNat : Int) < 48) = false := by simpa using h65
     have hd2 : decide ((57 : Int) < (s[k].toNat : Int)) = true := by simpa using h90
     clear hc
     go_wp2_with fail
     go_ret
     exact ⟨by rw [HN.out]; rfl, rfl⟩
   ·have HD := Lib.hid hc
    simp only [dig, decide_eq_true_eq] at hc
    obtain ⟨c0, c1⟩ := hc
    have hd1 : decide ((s[k].toNat : Int) < 48) = false := by simp; omega
    have hd2 : decide ((57 : Int) < (s[k].toNat : Int)) = false := by simp; omega
    go_wp2_with fail
    go_round
    case rel => exact ⟨k + 1, by omega, by go_num, allDig_next s k hlt HA.out HD.out⟩
    case measure => simp [RowKit.intOf]; omega
  ·have he : k = s.size := by omega
   subst he
   have hall := HA.out
   rw [List.take_of_length_le (by rw [size_list]; omega)] at hall
   have HN := Lib.hid hall
   clear hall
   rcases HF.out with ⟨h1, h2⟩ | ⟨h1, h2⟩ | ⟨h0, h1, ⟨g1, g2⟩, h3⟩ | ⟨h0, h1, ⟨g1, g2⟩, h2⟩
   ·have HR : Hid (R = false) := Lib.hid (by rw [← HT.out, h2]; rfl)
    subst h1
    clear h2 HF HT
    go_wp2_with fail
    go_ret
    exact ⟨by rw [HR.out]; rfl, rfl⟩
   ·have HR : Hid (R = true) := Lib.hid (by rw [← HT.out, h2]; rfl)
    subst h1
    clear h2 HF HT
    go_wp2_with fail
    go_ret
    exact ⟨by rw [HR.out]; rfl, rfl⟩
   ·have HR : Hid (R = false) := Lib.hid (by rw [← HT.out, h3]; rfl)
    have h4 : (s[0].toNat : Int) = 48 := by rw [h1]; rfl
    have g3 : (s.toList == [48]) = false := by rw [beq_eq_false_iff_ne]; exact g2
    clear h3 HF HT h1
    go_wp2_with fail
    go_ret
    exact ⟨by rw [HR.out]; rfl, rfl⟩
   ·have HR : Hid (R = true) := Lib.hid (by rw [← HT.out, h2, HN.out]; rfl)
    have h4 : ¬ (s[0].toNat : Int) = 48 := by
     intro e; exact h1 (UInt8.toNat_inj.1 (by have : (48 : UInt8).toNat = 48 := rfl; omega))
    have g3 : (s.toList == [48]) = false := by rw [beq_eq_false_iff_ne]; exact g2
    have h5 : ((s[0].toNat : Int) != 48) = true := by rw [bne_iff_ne]; exact h4
    clear h2 HF HT h1
    go_wp2_with fail
    go_ret
    exact ⟨by rw [HR.out]; rfl, rfl⟩
theorem neg_forms (s : ByteArray) : (s = ⟨#[]⟩ ∧ isNeg s.data.toList = false) ∨ (∃ h : 0 < s.size, (s[0].toNat : Int) = 45 ∧ isNeg s.data.toList = true) ∨ (∃ h : 0 < s.size, ¬ (s[0].toNat : Int) = 45 ∧ isNeg s.data.toList = false) := by
 obtain ⟨⟨l⟩⟩ := s
 cases l with
 | nil => exact Or.inl ⟨rfl, rfl⟩
 | cons c t =>
  have h0 : 0 < (ByteArray.mk ⟨c :: t⟩).size := by simp [ByteArray.size]
  by_cases hc : c = 45
  ·subst hc
   exact Or.inr (Or.inl ⟨h0, rfl, (neg_cons t).1⟩)
  ·refine Or.inr (Or.inr ⟨h0, ?_, ?_⟩)
   ·intro e; exact hc (UInt8.toNat_inj.1 (by have : (45 : UInt8).toNat = 45 := rfl; have h1 : (ByteArray.mk ⟨c :: t⟩)[0] = c := rfl; rw [h1] at e; omega))
   ·show ((45 : UInt8) == c && List.isPrefixOf [] t) = false
    have : ((45 : UInt8) == c) = false := by rw [beq_eq_false_iff_ne]; exact fun e => hc e.symm
    rw [this]; rfl
theorem neg_cut (s : ByteArray) (h : isNeg s.data.toList = true) : s.extract 1 s.size = str (digs s.data.toList) := by
 rw [str_cut, ← size_list, List.take_length]
 conv => lhs; rw [neg_yes _ h]
 rfl
set_option maxRecDepth 100000 in
set_option maxHeartbeats 2000000 in
theorem rtake (s : ByteArray) (hs : s.size ≤ 281474976710656) (w : World) :
  Calls Tryz.prog 103 #[.string s] w fun e w' => e = .returned (.tuple #[.int .i64 (tiV s.data.toList), .int .i64 (tiE s.data.toList)]) ∧ w = w' := by
 rcases neg_forms s with ⟨rfl, hn⟩ | ⟨h0, h45, hn⟩ | ⟨h0, h45, hn⟩
 ·have NN := Lib.hid (fun W => rnat_text ⟨#[]⟩ (by decide) W)
  clear hn
  go_enter Tryz.func103, Tryz.ntmps103
  go_wp2_with fail
  refine (NN.out _).mono ?_
  rintro e w1 ⟨rfl, rfl⟩
  go_wp2_with fail
  go_ret2
  exact ⟨rfl, rfl⟩
 ·have hc := neg_cut s hn
  have hcs : (s.extract 1 s.size).size ≤ 281474976710656 := by rw [ByteArray.size_extract]; omega
  obtain ⟨l, hl⟩ : ∃ l, s.data.toList = l := ⟨_, rfl⟩
  obtain ⟨U, hU⟩ : ∃ U, s.extract 1 s.size = U := ⟨_, rfl⟩
  rw [hU] at hc hcs
  rw [hl] at hn hc ⊢
  have HU : Hid (digs l = U.data.toList) := Lib.hid (by rw [hc, str_list])
  have HG := Lib.hid hn
  have N0 := fun W => rnat_text U (by omega) W
  have hO : tiOk l = (shortB U.data.toList true && allDig U.data.toList) := by unfold tiOk; rw [HG.out, HU.out]
  have HF := Lib.hid (forms U true)
  have HF2 := Lib.hid (forms U false)
  have hsz : (1 : Int) ≤ (s.size : Int) := by omega
  clear hl hn hc
  rcases HF.out with ⟨h1, h2⟩ | ⟨h1, h2⟩ | ⟨hp, h1, ⟨g1, g2⟩, h3⟩ | ⟨hp, h1, ⟨g1, g2⟩, h2⟩
  ·have HR := Lib.hid (ti_bad (l := l) (by rw [hO, h2]; rfl))
   subst h1
   have NN := Lib.hid N0
   clear N0 hO h2 HF HF2
   go_enter Tryz.func103, Tryz.ntmps103
   go_wp2_with fail
   refine (NN.out _).mono ?_
   rintro e w1 ⟨rfl, rfl⟩
   go_wp2_with fail
   go_ret2
   exact ⟨by rw [HR.out.1, HR.out.2]; rfl, rfl⟩
  ·have HR := Lib.hid (ti_bad (l := l) (by rw [hO, h2]; rfl))
   subst h1
   have NN := Lib.hid N0
   clear N0 hO h2 HF HF2
   go_enter Tryz.func103, Tryz.ntmps103
   go_wp2_with fail
   refine (NN.out _).mono ?_
   rintro e w1 ⟨rfl, rfl⟩
   go_wp2_with fail
   go_ret2
   exact ⟨by rw [HR.out.1, HR.out.2]; rfl, rfl⟩
  ·have HR := Lib.hid (ti_bad (l := l) (by rw [hO, h3]; rfl))
   have hq : shortB U.data.toList false = false := by
    rcases HF2.out with ⟨h, _⟩ | ⟨h, _⟩ | ⟨_, _, _, h⟩ | ⟨_, h, _⟩
    ·rw [h] at hp; exact absurd hp (by decide)
    ·exact absurd (by rw [h, Lib.toList_data]) g2
    ·exact h
    ·exact absurd h1 h
   rw [hq, Bool.false_and] at N0
   have NN := Lib.hid N0
   clear N0 hO h1 h3 hq HF HF2
   go_enter Tryz.func103, Tryz.ntmps103
   go_wp2_with fail
   refine (NN.out _).mono ?_
   rintro e w1 ⟨rfl, rfl⟩
   go_wp2_with fail
   go_ret2
   exact ⟨by rw [HR.out.1, HR.out.2]; rfl, rfl⟩
  ·have hq : shortB U.data.toList false = true := short_weak _ _ h2
   rw [hq, Bool.true_and] at N0
   rw [h2, Bool.true_and] at hO
   have g3 : (U.toList == [48]) = false := by rw [beq_eq_false_iff_ne]; exact g2
   cases ha : allDig U.data.toList
   ·have HR := Lib.hid (ti_bad (l := l) (by rw [hO, ha]))
    rw [ha] at N0
    have NN := Lib.hid N0
    clear N0 hO h1 h2 hq ha HF HF2
    go_enter Tryz.func103, Tryz.ntmps103
    go_wp2_with fail
    refine (NN.out _).mono ?_
    rintro e w1 ⟨rfl, rfl⟩
    go_wp2_with fail
    go_ret2
    exact ⟨by rw [HR.out.1, HR.out.2]; rfl, rfl⟩
   ·have OK := Lib.hid (show tiOk l = true by rw [hO, ha])
    rw [ha] at N0
    have NN := Lib.hid N0
    have HALL := Lib.hid ha
    have HP := Lib.hid (short_pos _ ha h2)
    clear N0 hO h1 h2 hq ha HF HF2
    go_enter Tryz.func103, Tryz.ntmps103
    go_wp2_with fail
    refine (NN.out _).mono ?_
    rintro e w1 ⟨rfl, rfl⟩
    go_wp2_with fail
    go_loop [7, 8] (fun x i => ∃ (k : Nat) (X : Nat), k ≤ U.size ∧ i = .int .i64 k ∧ x = .int .u64 X ∧ X = dval (U.data.toList.take k) ∧ X ≤ limN true) (fun _ i => U.size - (RowKit.intOf i).toNat)
    case atStart => exact ⟨0, 0, by omega, rfl, rfl, rfl, by omega⟩
    case round =>
     obtain ⟨k, X, hk, rfl, rfl, hX, hXL⟩ := hrel
     have HX := Lib.hid hX
     clear hX
     by_cases hlt : k < U.size
     ·have hkz : (k : Int) < (U.size : Int) := by omega
      obtain ⟨c0, c1⟩ := dig_at U k hlt HALL.out
      obtain ⟨d, hd⟩ : ∃ d : Nat, (U[k].toNat : Int) - 48 = (d : Int) := ⟨U[k].toNat - 48, by omega⟩
      obtain ⟨R, hR⟩ : ∃ R : Nat, (9223372036854775808 : Int) - (d : Int) = (R : Int) := ⟨(9223372036854775808 - (d : Int)).toNat, by omega⟩
      obtain ⟨z, hz⟩ : ∃ z : Nat, (R : Int) / 10 = (z : Int) := ⟨R / 10, by omega⟩
      obtain ⟨P, hP⟩ : ∃ P : Nat, P = X * 10 := ⟨_, rfl⟩
      obtain ⟨Y, hY⟩ : ∃ Y : Nat, Y = P + d := ⟨_, rfl⟩
      have hstep : Y = dval (U.data.toList.take (k + 1)) := by
       rw [WM.take_snoc U k hlt, dval_snoc, ← HX.out]; omega
      have HS := Lib.hid hstep
      have w8 : IntKind.u8.wrap ((U[k].toNat : Int) - 48) = (d : Int) := by rw [IntKind.wrap_u8]; omega
      have w9 : IntKind.u64.wrap (d : Int) = (d : Int) := by rw [IntKind.wrap_u64]; omega
      have wR : IntKind.u64.wrap (9223372036854775808 - (d : Int)) = (R : Int) := by rw [IntKind.wrap_u64]; omega
      have wz : IntKind.u64.wrap (z : Int) = (z : Int) := by rw [IntKind.wrap_u64]; omega
      by_cases hc : z < X
      ·have hcz : (z : Int) < (X : Int) := by omega
       have HR := Lib.hid (take_over OK.out (k + 1) (by rw [HU.out, HG.out, ← hstep]; unfold limN; simp; omega))
       clear hstep c0 c1 hd hR hP hY hk hXL HX HS
       go_wp2_with fail
       go_ret2
       exact ⟨by rw [HR.out.1, HR.out.2]; rfl, rfl⟩
      ·have hcz : ¬ (z : Int) < (X : Int) := by omega
       have HY := Lib.hid (show Y ≤ limN true by unfold limN at *; simp at *; omega)
       have wP : IntKind.u64.wrap ((X : Int) * 10) = (P : Int) := by rw [IntKind.wrap_u64]; unfold limN at hXL; simp at hXL; omega
       have wY : IntKind.u64.wrap ((P : Int) + (d : Int)) = (Y : Int) := by rw [IntKind.wrap_u64]; have := HY.out; unfold limN at this; simp at this; omega
       have HL := Lib.hid hXL
       clear hstep c0 c1 hd hR hP hY HX hXL
       go_wp2_with fail
       go_round
       case rel => exact ⟨k + 1, Y, by omega, by go_num, rfl, HS.out, HY.out⟩
       case measure => simp [RowKit.intOf]; omega
     ·have he : k = U.size := by omega
      subst he
      have hX := HX.out
      rw [List.take_of_length_le (by rw [size_list]; omega)] at hX
      have hf := take_fine OK.out (by rw [HU.out, HG.out, ← hX]; exact hXL)
      rw [HU.out, HG.out, ← hX] at hf
      unfold limN at hXL
      simp at hXL
      have hX1 := HP.out
      rw [← hX] at hX1
      obtain ⟨C, hC⟩ : ∃ C : Nat, 18446744073709551615 - (X : Int) = (C : Int) := ⟨(18446744073709551615 - (X : Int)).toNat, by omega⟩
      obtain ⟨D, hD⟩ : ∃ D : Nat, (C : Int) + 1 = (D : Int) := ⟨C + 1, by omega⟩
      obtain ⟨V, hV⟩ : ∃ V : Int, -(X : Int) = V := ⟨_, rfl⟩
      have hx : bits .xor .u64 IntKind.u64.max (X : Int) = (C : Int) := by rw [u64_not _ (by omega)]; omega
      have hy : IntKind.u64.wrap ((C : Int) + 1) = (D : Int) := by rw [IntKind.wrap_u64]; omega
      have hz : wrap64 (D : Int) = V := by unfold wrap64; omega
      have HR : Hid (tiE l = 0 ∧ tiV l = V) := Lib.hid ⟨hf.1, by rw [hf.2, ← hV]; unfold WM.signed; simp⟩
      clear hX hX1 hf hV HX hC hD hXL
      go_wp2_with fail
      go_ret2
      exact ⟨by rw [HR.out.1, HR.out.2]; rfl, rfl⟩
 ·obtain ⟨l, hl⟩ : ∃ l, s.data.toList = l := ⟨_, rfl⟩
  have hd := neg_no _ hn
  obtain ⟨U, hU⟩ : ∃ U, s = U := ⟨_, rfl⟩
  subst hU
  rw [hl] at hn hd
  have HU : Hid (digs l = s.data.toList) := Lib.hid (by rw [hd, hl])
  have HG := Lib.hid hn
  have N0 := fun W => rnat_text s (by omega) W
  rw [hl] at N0 HU ⊢
  have hO : tiOk l = (shortB l false && allDig l) := by unfold tiOk; rw [HG.out, HU.out]
  rw [← hO] at N0
  have h46 : ((s[0].toNat : Int) == 45) = false := by rw [beq_eq_false_iff_ne]; exact h45
  have HL := Lib.hid hl
  cases ho : tiOk l
  ·have HR := Lib.hid (ti_bad ho)
   rw [ho] at N0
   have NN := Lib.hid N0
   clear hl hn hd hO N0 ho
   go_enter Tryz.func103, Tryz.ntmps103
   go_wp2_with fail
   refine (NN.out _).mono ?_
   rintro e w1 ⟨rfl, rfl⟩
   go_wp2_with fail
   go_ret2
   exact ⟨by rw [HR.out.1, HR.out.2]; rfl, rfl⟩
  ·have OK := Lib.hid ho
   have HALL : Hid (allDig s.data.toList = true) := Lib.hid (by rw [hO, Bool.and_eq_true] at ho; rw [HL.out]; exact ho.2)
   rw [ho] at N0
   have NN := Lib.hid N0
   have HU2 : Hid (digs l = s.data.toList) := Lib.hid (by rw [HU.out, HL.out])
   clear hl hn hd hO N0 ho HU
   go_enter Tryz.func103, Tryz.ntmps103
   go_wp2_with fail
   refine (NN.out _).mono ?_
   rintro e w1 ⟨rfl, rfl⟩
   go_wp2_with fail
   go_loop [7, 8] (fun x i => ∃ (k : Nat) (X : Nat), k ≤ s.size ∧ i = .int .i64 k ∧ x = .int .u64 X ∧ X = dval (s.data.toList.take k) ∧ X ≤ limN false) (fun _ i => s.size - (RowKit.intOf i).toNat)
   case atStart => exact ⟨0, 0, by omega, rfl, rfl, rfl, by omega⟩
   case round =>
    obtain ⟨k, X, hk, rfl, rfl, hX, hXL⟩ := hrel
    have HX := Lib.hid hX
    clear hX
    by_cases hlt : k < s.size
    ·have hkz : (k : Int) < (s.size : Int) := by omega
     obtain ⟨c0, c1⟩ := dig_at s k hlt HALL.out
     obtain ⟨d, hd⟩ : ∃ d : Nat, (s[k].toNat : Int) - 48 = (d : Int) := ⟨s[k].toNat - 48, by omega⟩
     obtain ⟨R, hR⟩ : ∃ R : Nat, (9223372036854775807 : Int) - (d : Int) = (R : Int) := ⟨(9223372036854775807 - (d : Int)).toNat, by omega⟩
     obtain ⟨z, hz⟩ : ∃ z : Nat, (R : Int) / 10 = (z : Int) := ⟨R / 10, by omega⟩
     obtain ⟨P, hP⟩ : ∃ P : Nat, P = X * 10 := ⟨_, rfl⟩
     obtain ⟨Y, hY⟩ : ∃ Y : Nat, Y = P + d := ⟨_, rfl⟩
     have hstep : Y = dval (s.data.toList.take (k + 1)) := by
      rw [WM.take_snoc s k hlt, dval_snoc, ← HX.out]; omega
     have HS := Lib.hid hstep
     have w8 : IntKind.u8.wrap ((s[k].toNat : Int) - 48) = (d : Int) := by rw [IntKind.wrap_u8]; omega
     have w9 : IntKind.u64.wrap (d : Int) = (d : Int) := by rw [IntKind.wrap_u64]; omega
     have wR : IntKind.u64.wrap (9223372036854775807 - (d : Int)) = (R : Int) := by rw [IntKind.wrap_u64]; omega
     have wz : IntKind.u64.wrap (z : Int) = (z : Int) := by rw [IntKind.wrap_u64]; omega
     by_cases hc : z < X
     ·have hcz : (z : Int) < (X : Int) := by omega
      have HR := Lib.hid (take_over OK.out (k + 1) (by rw [HU2.out, HG.out, ← hstep]; unfold limN; simp; omega))
      clear hstep c0 c1 hd hR hP hY hk hXL HX HS
      go_wp2_with fail
      go_ret2
      exact ⟨by rw [HR.out.1, HR.out.2]; rfl, rfl⟩
     ·have hcz : ¬ (z : Int) < (X : Int) := by omega
      have HY := Lib.hid (show Y ≤ limN false by unfold limN at *; simp at *; omega)
      have wP : IntKind.u64.wrap ((X : Int) * 10) = (P : Int) := by rw [IntKind.wrap_u64]; unfold limN at hXL; simp at hXL; omega
      have wY : IntKind.u64.wrap ((P : Int) + (d : Int)) = (Y : Int) := by rw [IntKind.wrap_u64]; have := HY.out; unfold limN at this; simp at this; omega
      have HL := Lib.hid hXL
      clear hstep c0 c1 hd hR hP hY HX hXL
      go_wp2_with fail
      go_round
      case rel => exact ⟨k + 1, Y, by omega, by go_num, rfl, HS.out, HY.out⟩
      case measure => simp [RowKit.intOf]; omega
    ·have he : k = s.size := by omega
     subst he
     have hX := HX.out
     rw [List.take_of_length_le (by rw [size_list]; omega)] at hX
     have hf := take_fine OK.out (by rw [HU2.out, HG.out, ← hX]; exact hXL)
     rw [HU2.out, HG.out, ← hX] at hf
     unfold limN at hXL
     simp at hXL
     obtain ⟨V, hV⟩ : ∃ V : Int, (X : Int) = V := ⟨_, rfl⟩
     have hz : wrap64 (X : Int) = V := by unfold wrap64; omega
     have HR : Hid (tiE l = 0 ∧ tiV l = V) := Lib.hid ⟨hf.1, by rw [hf.2, ← hV]; unfold WM.signed; simp⟩
     clear hX hf hV HX  hXL
     go_wp2_with fail
     go_ret2
     exact ⟨by rw [HR.out.1, HR.out.2]; rfl, rfl⟩
end Go.Proofs.YtplkphihmfhciaaGreatDoor
