/-
  Merged: Tokens: contracts of the document's own digit, plain, form. Tokens: contracts of the document's own Rate, digits, Percent.
-/
import Derived.Test.YtplkphihmfhciaaGreatDoorMA
/- Tokens: contracts of the document's own digit, plain, form. -/
namespace Go.Proofs.YtplkphihmfhciaaGreatDoor
open Go Go.RowKit Go.Lib WM TM

theorem rdigit (c : UInt8) (w : World) :
  Calls Tryz.prog 106 #[.int .u8 (c.toNat : Int)] w fun e w' => e = .returned (.bool (dig c)) ∧ w = w' := by
 by_cases h1 : (48 : Int) ≤ (c.toNat : Int)
 ·by_cases h2 : (c.toNat : Int) ≤ 57
  ·have e : dig c = true := by simp only [dig, decide_eq_true_eq]; exact ⟨h1, h2⟩
   rw [e]
   clear e
   go_enter Tryz.func106, Tryz.ntmps106
   go_wp2_with fail
   go_ret
   exact ⟨rfl, rfl⟩
  ·have e : dig c = false := by simp only [dig, decide_eq_false_iff_not]; exact fun h => h2 h.2
   rw [e]
   clear e
   go_enter Tryz.func106, Tryz.ntmps106
   go_wp2_with fail
   go_ret
   exact ⟨rfl, rfl⟩
 ·have e : dig c = false := by simp only [dig, decide_eq_false_iff_not]; exact fun h => h1 h.1
  rw [e]
  clear e
  go_enter Tryz.func106, Tryz.ntmps106
  go_wp2_with fail
  go_ret
  exact ⟨rfl, rfl⟩
theorem byt_get (s : ByteArray) (k : Nat) (h : k < s.size) : s[k] = (byt s)[k]'(by rw [byt_len]; exact h) := rfl
theorem pln_le (l : List UInt8) : pln l ≤ l.length := by
 unfold pln
 split
 ·omega
 ·exact sp_le _ _
theorem head_at {s : ByteArray} (h : 0 < s.size) : (byt s).head? = some s[0] := by
 rw [byt_get s 0 h]
 have key : ∀ (l : List UInt8) (hl : 0 < l.length), l.head? = some l[0] := by
  intro l hl
  cases l with
  | nil => exact absurd hl (by decide)
  | cons c t => simp
 exact key (byt s) (by rw [byt_len]; exact h)
theorem u8_int (c : UInt8) (n : Nat) (hn : n < 256) : ((c.toNat : Int) = (n : Int)) ↔ c = UInt8.ofNat n := by
 constructor
 ·intro h
  have h1 : c.toNat = n := by omega
  rw [← h1, UInt8.ofNat_toNat]
 ·intro h
  rw [h, UInt8.toNat_ofNat', Nat.mod_eq_of_lt hn]

set_option maxRecDepth 100000 in
set_option maxHeartbeats 2000000 in
theorem rplain (s : ByteArray) (hs : s.size ≤ 9223372036854775806) (w : World) :
  Calls Tryz.prog 105 #[.string s] w fun e w' => e = .returned (.int .i64 ((pln (byt s) : Nat) : Int)) ∧ w = w' := by
 have RD := Lib.hid (fun c W => rdigit c W)
 obtain ⟨P, hP⟩ : ∃ P, pln (byt s) = P := ⟨_, rfl⟩
 have HP : Hid (∀ k, sp dig (byt s) = k → P = if 1 < k ∧ (byt s).head? = some 48 then 0 else k) := Lib.hid (fun k hk => by rw [← hP, ← hk]; rfl)
 rw [hP]
 clear hP
 go_enter Tryz.func105, Tryz.ntmps105
 go_wp2_with fail
 go_loop [3] (fun i => ∃ (k : Nat), k ≤ s.size ∧ i = .int .i64 k ∧ ∀ j, (hj : j < k) → ∃ h : j < (byt s).length, dig ((byt s)[j]) = true) (fun i => s.size - (RowKit.intOf i).toNat)
 case atStart => exact ⟨0, by omega, rfl, fun j hj => absurd hj (Nat.not_lt_zero _)⟩
 case round =>
  obtain ⟨k, hk, rfl, hall⟩ := hrel
  have HA := Lib.hid hall
  clear hall
  by_cases hlt : k < s.size
  ·have hkz : (k : Int) < (s.size : Int) := by omega
   have RB := RD.out s[k]
   have hg := byt_get s k hlt
   obtain ⟨B, hB⟩ : ∃ B, dig s[k] = B := ⟨_, rfl⟩
   rw [hB] at RB
   have HB : Hid (dig ((byt s)[k]'(by rw [byt_len]; exact hlt)) = B) := Lib.hid (by rw [← hg]; exact hB)
   have HR := Lib.hid RB
   clear RB hB hg
   cases B
   ·have HS : Hid (sp dig (byt s) = k) := Lib.hid (sp_at _ _ k (by rw [byt_len]; exact hlt) (fun j hj => (HA.out j hj).2) HB.out)
    by_cases h1 : 1 < k
    ·have h1z : (1 : Int) < (k : Int) := by omega
     have hs0 : 0 < s.size := by omega
     have hs0z : (0 : Int) < (s.size : Int) := by omega
     have hd0 := head_at hs0
     by_cases h2 : (s[0].toNat : Int) = 48
     ·have HQ : Hid (P = 0) := Lib.hid (by rw [HP.out _ HS.out, hd0, (u8_int s[0] 48 (by decide)).1 h2, if_pos ⟨h1, rfl⟩])
      clear hd0
      go_wp2_with fail
      refine (HR.out _).mono ?_
      rintro e w1 ⟨rfl, rfl⟩
      go_wp2_with fail
      go_ret
      exact ⟨by rw [HQ.out]; rfl, rfl⟩
     ·have HQ : Hid (P = k) := Lib.hid (by
       rw [HP.out _ HS.out, if_neg]
       rintro ⟨_, h3⟩
       rw [hd0] at h3
       exact h2 ((u8_int s[0] 48 (by decide)).2 (Option.some.inj h3)))
      have h2b : ((s[0].toNat : Int) == 48) = false := by rw [beq_eq_false_iff_ne]; exact h2
      clear hd0
      go_wp2_with fail
      refine (HR.out _).mono ?_
      rintro e w1 ⟨rfl, rfl⟩
      go_wp2_with fail
      go_ret
      exact ⟨by rw [HQ.out]; rfl, rfl⟩
    ·have h1z : ¬ (1 : Int) < (k : Int) := by omega
     have HQ : Hid (P = k) := Lib.hid (by rw [HP.out _ HS.out, if_neg (fun h => h1 h.1)])
     go_wp2_with fail
     refine (HR.out _).mono ?_
     rintro e w1 ⟨rfl, rfl⟩
     go_wp2_with fail
     go_ret
     exact ⟨by rw [HQ.out]; rfl, rfl⟩
   ·go_wp2_with fail
    refine (HR.out _).mono ?_
    rintro e w1 ⟨rfl, rfl⟩
    go_wp2_with fail
    go_round
    case rel =>
     refine ⟨k + 1, by omega, by go_num, fun j hj => ?_⟩
     by_cases hjk : j < k
     ·exact HA.out j hjk
     ·have : j = k := by omega
      subst this
      exact ⟨by rw [byt_len]; exact hlt, HB.out⟩
    case measure => simp [RowKit.intOf]; omega
  ·have he : k = s.size := by omega
   subst he
   have HS : Hid (sp dig (byt s) = s.size) := Lib.hid (by rw [sp_all _ _ (fun j hj => (HA.out j (by rw [← byt_len]; exact hj)).2), byt_len])
   by_cases h1 : 1 < s.size
   ·have h1z : (1 : Int) < (s.size : Int) := by omega
    have hs0 : 0 < s.size := by omega
    have hs0z : (0 : Int) < (s.size : Int) := by omega
    have hd0 := head_at hs0
    by_cases h2 : (s[0].toNat : Int) = 48
    ·have HQ : Hid (P = 0) := Lib.hid (by rw [HP.out _ HS.out, hd0, (u8_int s[0] 48 (by decide)).1 h2, if_pos ⟨h1, rfl⟩])
     clear hd0
     go_wp2_with fail
     go_ret
     exact ⟨by rw [HQ.out]; rfl, rfl⟩
    ·have HQ : Hid (P = s.size) := Lib.hid (by
      rw [HP.out _ HS.out, if_neg]
      rintro ⟨_, h3⟩
      rw [hd0] at h3
      exact h2 ((u8_int s[0] 48 (by decide)).2 (Option.some.inj h3)))
     have h2b : ((s[0].toNat : Int) == 48) = false := by rw [beq_eq_false_iff_ne]; exact h2
     clear hd0
     go_wp2_with fail
     go_ret
     exact ⟨by rw [HQ.out]; rfl, rfl⟩
   ·have h1z : ¬ (1 : Int) < (s.size : Int) := by omega
    have HQ : Hid (P = s.size) := Lib.hid (by rw [HP.out _ HS.out, if_neg (fun h => h1 h.1)])
    go_wp2_with fail
    go_ret
    exact ⟨by rw [HQ.out]; rfl, rfl⟩

theorem fm_nil : fm [] = true := rfl
theorem fm_parts {m : List UInt8} (h : m ≠ []) : fm m = (decide (2 ≤ m.length) && (decide (m.length ≤ 5) && (m.head? == some 46 && (m.getLast? != some 48 && m.tail.all dig)))) := by
 unfold fm
 cases m with
 | nil => exact absurd rfl h
 | cons c t => rfl
theorem last_at {s : ByteArray} (h : 0 < s.size) : (byt s).getLast? = some (s[s.size - 1]'(by omega)) := by
 rw [List.getLast?_eq_getElem?, List.getElem?_eq_getElem (by rw [byt_len]; omega)]
 congr 1
set_option maxRecDepth 100000 in
set_option maxHeartbeats 8000000 in
theorem rform (s : ByteArray) (hs : s.size ≤ 9223372036854775806) (w : World) :
  Calls Tryz.prog 104 #[.string s] w fun e w' => e = .returned (.bool (frm (byt s))) ∧ w = w' := by
 have RD := Lib.hid (fun c W => rdigit c W)
 have RP0 := fun W => rplain s hs W
 have hple := pln_le (byt s)
 rw [byt_len] at hple
 obtain ⟨R, hR⟩ : ∃ R, frm (byt s) = R := ⟨_, rfl⟩
 rw [hR]
 unfold frm at hR
 obtain ⟨P, hP⟩ : ∃ P, pln (byt s) = P := ⟨_, rfl⟩
 rw [hP] at hR RP0 hple
 have RP := Lib.hid RP0
 by_cases hP0 : P = 0
 ·have HR : Hid (R = false) := Lib.hid (by rw [← hR, hP0]; rfl)
  have hPz : (P : Int) = 0 := by omega
  clear RP0 hR hP
  subst hP0
  go_enter Tryz.func104, Tryz.ntmps104
  go_wp2_with fail
  refine (RP.out _).mono ?_
  rintro e w1 ⟨rfl, rfl⟩
  go_wp2_with fail
  go_ret
  exact ⟨by rw [HR.out]; rfl, rfl⟩
 have hs0 : 0 < s.size := by omega
 have hl := last_at hs0
 rw [hl, decide_eq_true hP0, Bool.true_and] at hR
 have hPz : ((P : Int) == 0) = false := by rw [beq_eq_false_iff_ne]; omega
 have hw1 : wrap64 ((s.size : Int) - 1) = ((s.size - 1 : Nat) : Int) := by unfold wrap64; omega
 obtain ⟨m, hm⟩ : ∃ m, s.size - 1 = m := ⟨_, rfl⟩
 have hmlt : m < s.size := by omega
 have hgm : ∀ h : s.size - 1 < s.size, s[s.size - 1]'h = s[m]'hmlt := by intro h; simp [hm]
 rw [hgm] at hR
 rw [hm] at hw1
 have hmz : (m : Int) < (s.size : Int) := by omega
 have hm0 : ¬ (m : Int) < 0 := by omega
 by_cases h37 : (s[m].toNat : Int) = 37
 ·have hc := (u8_int s[m] 37 (by decide)).1 h37
  have hc1 : (some s[m] == some 37) = true := by rw [hc]; rfl
  rw [hc1, Bool.true_and] at hR
  have hvl : vl (byt s) = (byt s).take m := by unfold vl; rw [byt_len, hm]
  have hPm : P ≤ m := by
   rcases Nat.lt_or_ge m P with h | h
   ·exfalso
    have h1 : P = s.size := by omega
    have h2 : P ≤ sp dig (byt s) := by rw [← hP]; unfold pln; split <;> omega
    obtain ⟨h3, h4⟩ := sp_lt dig (byt s) m (by omega)
    rw [← byt_get s m hmlt, hc] at h4
    exact absurd h4 (by decide)
   ·exact h
  have hcut : byt (s.extract P m) = (vl (byt s)).drop P := by rw [str_cut, byt_str, hvl]; rfl
  rw [← hcut] at hR
  obtain ⟨S, hS⟩ : ∃ S, s.extract P m = S := ⟨_, rfl⟩
  rw [hS] at hR
  have hPmz : (P : Int) ≤ (m : Int) := by omega
  have hmsz : (m : Int) ≤ (s.size : Int) := by omega
  have hlen := byt_len S
  clear hcut hvl hc1 hl hgm RP0 hP hc
  by_cases hS0 : S.size = 0
  ·have hb : byt S = [] := List.eq_nil_of_length_eq_zero (by rw [hlen]; exact hS0)
   have HR : Hid (R = true) := Lib.hid (by rw [← hR, hb]; rfl)
   have hne : S.toList.isEmpty = true := by rw [toList_data]; show (byt S).isEmpty = true; rw [hb]; rfl
   clear hR hb
   go_enter Tryz.func104, Tryz.ntmps104
   go_wp2_with fail
   refine (RP.out _).mono ?_
   rintro e w1 ⟨rfl, rfl⟩
   go_wp2_with fail
   go_ret
   exact ⟨by rw [HR.out]; rfl, rfl⟩
  have hbn : byt S ≠ [] := fun e => hS0 (by rw [← hlen, e]; rfl)
  rw [fm_parts hbn, hlen] at hR
  have hne : S.toList.isEmpty = false := by
   rw [toList_data]
   show (byt S).isEmpty = false
   cases hb : byt S with
   | nil => exact absurd hb hbn
   | cons c t => rfl
  by_cases hS2 : S.size < 2
  ·have HR : Hid (R = false) := Lib.hid (by rw [← hR, decide_eq_false (by omega)]; rfl)
   have hS2z : (S.size : Int) < 2 := by omega
   clear hR
   go_enter Tryz.func104, Tryz.ntmps104
   go_wp2_with fail
   refine (RP.out _).mono ?_
   rintro e w1 ⟨rfl, rfl⟩
   go_wp2_with fail
   go_ret
   exact ⟨by rw [HR.out]; rfl, rfl⟩
  have hS2z : ¬ (S.size : Int) < 2 := by omega
  rw [decide_eq_true (by omega : 2 ≤ S.size), Bool.true_and] at hR
  by_cases hS5 : 5 < S.size
  ·have HR : Hid (R = false) := Lib.hid (by rw [← hR, decide_eq_false (by omega)]; rfl)
   have hS5z : (5 : Int) < (S.size : Int) := by omega
   clear hR
   go_enter Tryz.func104, Tryz.ntmps104
   go_wp2_with fail
   refine (RP.out _).mono ?_
   rintro e w1 ⟨rfl, rfl⟩
   go_wp2_with fail
   go_ret
   exact ⟨by rw [HR.out]; rfl, rfl⟩
  have hS5z : ¬ (5 : Int) < (S.size : Int) := by omega
  rw [decide_eq_true (by omega : S.size ≤ 5), Bool.true_and] at hR
  have hSp : 0 < S.size := by omega
  have hSpz : (0 : Int) < (S.size : Int) := by omega
  rw [head_at hSp] at hR
  by_cases h46 : (S[0].toNat : Int) = 46
  ·have hc := (u8_int S[0] 46 (by decide)).1 h46
   have hc1 : (some S[0] == some 46) = true := by rw [hc]; rfl
   rw [hc1, Bool.true_and, last_at hSp] at hR
   have hw2 : wrap64 ((S.size : Int) - 1) = ((S.size - 1 : Nat) : Int) := by unfold wrap64; omega
   obtain ⟨q, hq⟩ : ∃ q, S.size - 1 = q := ⟨_, rfl⟩
   have hqlt : q < S.size := by omega
   have hgq : ∀ h : S.size - 1 < S.size, S[S.size - 1]'h = S[q]'hqlt := by intro h; simp [hq]
   rw [hgq] at hR
   rw [hq] at hw2
   have hqz : (q : Int) < (S.size : Int) := by omega
   have hq0 : ¬ (q : Int) < 0 := by omega
   clear hgq hc hc1
   by_cases h48 : (S[q].toNat : Int) = 48
   ·have hc := (u8_int S[q] 48 (by decide)).1 h48
    have HR : Hid (R = false) := Lib.hid (by rw [← hR, hc]; rfl)
    clear hR hc
    go_enter Tryz.func104, Tryz.ntmps104
    go_wp2_with fail
    refine (RP.out _).mono ?_
    rintro e w1 ⟨rfl, rfl⟩
    go_wp2_with fail
    go_ret
    exact ⟨by rw [HR.out]; rfl, rfl⟩
   ·have hc1 : (some S[q] != some 48) = true := by
     rw [bne_iff_ne]
     intro e
     exact h48 ((u8_int S[q] 48 (by decide)).2 (Option.some.inj e))
    rw [hc1, Bool.true_and] at hR
    have h48b : ((S[q].toNat : Int) == 48) = false := by rw [beq_eq_false_iff_ne]; exact h48
    have HR : Hid (R = (byt S).tail.all dig) := Lib.hid hR.symm
    clear hR hc1
    go_enter Tryz.func104, Tryz.ntmps104
    go_wp2_with fail
    refine (RP.out _).mono ?_
    rintro e w1 ⟨rfl, rfl⟩
    go_wp2_with fail
    go_loop [4] (fun i => ∃ (k : Nat), 1 ≤ k ∧ k ≤ S.size ∧ i = .int .i64 k ∧ ∀ j, (hj : j < k) → 1 ≤ j → ∃ h : j < (byt S).length, dig ((byt S)[j]) = true) (fun i => S.size - (RowKit.intOf i).toNat)
    case atStart => exact ⟨1, by omega, by omega, rfl, fun j hj h1 => by omega⟩
    case round =>
     obtain ⟨k, hk1, hk, rfl, hall⟩ := hrel
     have HA := Lib.hid hall
     clear hall
     by_cases hlt : k < S.size
     ·have hkz : (k : Int) < (S.size : Int) := by omega
      have RB := RD.out S[k]
      have hg := byt_get S k hlt
      obtain ⟨B, hB⟩ : ∃ B, dig S[k] = B := ⟨_, rfl⟩
      rw [hB] at RB
      have HB : Hid (dig ((byt S)[k]'(by rw [byt_len]; exact hlt)) = B) := Lib.hid (by rw [← hg]; exact hB)
      have HRB := Lib.hid RB
      clear RB hB hg
      cases B
      ·have HQ : Hid (R = false) := Lib.hid (by
        rw [HR.out, List.all_eq_false]
        refine ⟨(byt S)[k]'(by rw [byt_len]; exact hlt), ?_, by rw [HB.out]; decide⟩
        rw [← List.drop_one]
        have h5 : (byt S)[k]'(by rw [byt_len]; exact hlt) = ((byt S).drop 1)[k - 1]'(by rw [List.length_drop, byt_len]; omega) := by
         rw [List.getElem_drop]
         congr 1
         omega
        rw [h5]
        exact List.getElem_mem _)
       go_wp2_with fail
       refine (HRB.out _).mono ?_
       rintro e w1 ⟨rfl, rfl⟩
       go_wp2_with fail
       go_ret
       exact ⟨by rw [HQ.out]; rfl, rfl⟩
      ·go_wp2_with fail
       refine (HRB.out _).mono ?_
       rintro e w1 ⟨rfl, rfl⟩
       go_wp2_with fail
       go_round
       case rel =>
        refine ⟨k + 1, by omega, by omega, by go_num, fun j hj hj1 => ?_⟩
        by_cases hjk : j < k
        ·exact HA.out j hjk hj1
        ·have : j = k := by omega
         subst this
         exact ⟨by rw [byt_len]; exact hlt, HB.out⟩
       case measure => simp [RowKit.intOf]; omega
     ·have he : k = S.size := by omega
      subst he
      have HQ : Hid (R = true) := Lib.hid (by
       rw [HR.out, List.all_eq_true]
       intro c hc
       rw [← List.drop_one] at hc
       obtain ⟨j, hj, e⟩ := List.getElem_of_mem hc
       rw [List.length_drop, byt_len] at hj
       rw [List.getElem_drop] at e
       obtain ⟨_, h6⟩ := HA.out (1 + j) (by omega) (by omega)
       rw [e] at h6; exact h6)
      go_wp2_with fail
      go_ret
      exact ⟨by rw [HQ.out]; rfl, rfl⟩
  ·have hc1 : (some S[0] == some 46) = false := by
    rw [beq_eq_false_iff_ne]
    intro e
    exact h46 ((u8_int S[0] 46 (by decide)).2 (Option.some.inj e))
   have HR : Hid (R = false) := Lib.hid (by rw [← hR, hc1]; rfl)
   have h46b : ((S[0].toNat : Int) != 46) = true := by rw [bne_iff_ne]; exact h46
   clear hR hc1
   go_enter Tryz.func104, Tryz.ntmps104
   go_wp2_with fail
   refine (RP.out _).mono ?_
   rintro e w1 ⟨rfl, rfl⟩
   go_wp2_with fail
   go_ret
   exact ⟨by rw [HR.out]; rfl, rfl⟩
 ·have hc1 : (some s[m] == some 37) = false := by
   rw [beq_eq_false_iff_ne]
   intro e
   exact h37 ((u8_int s[m] 37 (by decide)).2 (Option.some.inj e))
  have HR : Hid (R = false) := Lib.hid (by rw [← hR, hc1]; rfl)
  have h37b : ((s[m].toNat : Int) != 37) = true := by rw [bne_iff_ne]; exact h37
  clear hR hc1 hl hgm RP0 hP
  go_enter Tryz.func104, Tryz.ntmps104
  go_wp2_with fail
  refine (RP.out _).mono ?_
  rintro e w1 ⟨rfl, rfl⟩
  go_wp2_with fail
  go_ret
  exact ⟨by rw [HR.out]; rfl, rfl⟩
end Go.Proofs.YtplkphihmfhciaaGreatDoor

/- Tokens: contracts of the document's own Rate, digits, Percent. -/
namespace Go.Proofs.YtplkphihmfhciaaGreatDoor
open Go Go.RowKit Go.Lib WM TM

def pE (n : Int) : Int := if 0 ≤ n ∧ n ≤ 1000000 then 0 else 1
def pV (n : Int) : List UInt8 := if 0 ≤ n ∧ n ≤ 1000000 then pct n.toNat else []
theorem tl_head (f : List UInt8) : ∀ c, (tl f ++ [37]).head? = some c → dig c = false := by
 intro c h
 unfold tl at h
 split at h
 ·simp at h; subst h; decide
 ·simp at h; subst h; decide
theorem sub48 (c : UInt8) (h : dig c = true) : IntKind.u8.wrap ((c.toNat : Int) - 48) = ((c.toNat - 48 : Nat) : Int) := by
 have hb := dig_bounds h
 rw [IntKind.wrap_u8]
 omega
theorem dig_nine {c : UInt8} (h : dig c = true) : c.toNat - 48 ≤ 9 := by have := dig_bounds h; omega
theorem ten_more (a z : Nat) (ha : a ≤ 1000000) (hz : z ≤ 9) : wrap64 (10 * (a : Int)) = 10 * (a : Int) ∧ wrap64 (10 * (a : Int) + (z : Int)) = 10 * (a : Int) + (z : Int) := by
 refine ⟨?_, ?_⟩
 ·unfold wrap64; omega
 ·unfold wrap64; omega
theorem ten_zero (a j : Nat) (hj : j ≤ 3) (ha : a ≤ 1000000 * 10 ^ j) : wrap64 (10 * (a : Int)) = ((10 * a : Nat) : Int) := by
 have hp : 10 ^ j ≤ 1000 := by
  have := Nat.pow_le_pow_right (show 0 < 10 by decide) hj
  omega
 have hp2 := Nat.mul_le_mul_left 1000000 hp
 unfold wrap64; omega
theorem one_more (F j : Nat) (h : F + j ≤ 4) : wrap64 ((F : Int) + (j : Int) + 1) = ((F + (j + 1) : Nat) : Int) := by unfold wrap64; omega
set_option maxRecDepth 100000 in
set_option maxHeartbeats 4000000 in
theorem rrate (s : ByteArray) (hs : s.size ≤ 9223372036854775806) (w : World) :
  Calls Tryz.prog 77 #[.string s] w fun e w' => e = .returned (.tuple #[.int .i64 ((rV (byt s) : Nat) : Int), .int .i64 (rE (byt s))]) ∧ w = w' := by
 have RF0 := fun W => rform s hs W
 rw [frm_ok] at RF0
 have RP0 := fun W => rplain s hs W
 have RD := Lib.hid (fun c W => rdigit c W)
 cases hok : rOk (byt s)
 ·have e1 : rE (byt s) = 2 := by unfold rE; rw [hok]; rfl
  have e2 : rV (byt s) = 0 := by unfold rV; rw [e1]; rfl
  rw [hok] at RF0
  rw [e1, e2]
  have RF := Lib.hid RF0
  clear RF0 RP0 hok e1 e2
  go_enter Tryz.func77, Tryz.ntmps77
  go_wp2_with fail
  refine (RF.out _).mono ?_
  rintro e w1 ⟨rfl, rfl⟩
  go_wp2_with fail
  go_ret2
  exact ⟨rfl, rfl⟩
 rw [hok] at RF0
 have RF := Lib.hid RF0
 obtain ⟨d, f, hsh, el⟩ := ok_sh hok
 obtain ⟨p1, p2, p3, p4, p5, p6⟩ := sh_parts hsh
 have hpl : pln (byt s) = d.length := by
  rw [el, List.append_assoc]
  exact pln_numl d (tl f ++ [37]) hsh.1 (tl_head f)
 have hrE := rE_of hsh
 rw [← el] at hrE
 have hrV : rV (byt s) = if dval (d ++ f ++ zs (4 - f.length)) ≤ 1000000 then dval (d ++ f ++ zs (4 - f.length)) else 0 := by
  have hN : rN (byt s) = dval (d ++ f ++ zs (4 - f.length)) := by
   unfold rN
   rw [el, (sh_ok hsh).2]
  unfold rV
  rw [hrE, hN]
  by_cases q : dval (d ++ f ++ zs (4 - f.length)) ≤ 1000000
  ·rw [if_pos q, if_pos rfl, if_pos q]
  ·rw [if_neg q, if_neg (by decide), if_neg q]
 rw [hrE, hrV]
 rw [hpl] at RP0
 have RP := Lib.hid RP0
 obtain ⟨M, hM⟩ : ∃ M, (d ++ tl f).length = M := ⟨_, rfl⟩
 have hsz : s.size = M + 1 := by rw [← byt_len, el, List.length_append, hM]; rfl
 have hsi : ∀ i (h : i < s.size) (h2 : i < (d ++ tl f).length), s[i] = (d ++ tl f)[i] := by
  intro i h h2
  rw [byt_get s i h]
  simp only [el]
  rw [List.getElem_append_left h2]
 obtain ⟨N, hN⟩ : ∃ N, dval (d ++ f ++ zs (4 - f.length)) = N := ⟨_, rfl⟩
 have HDN := Lib.hid hN
 rw [hN]
 obtain ⟨RV, hRV⟩ : ∃ RV : Nat, (if N ≤ 1000000 then N else 0) = RV := ⟨_, rfl⟩
 obtain ⟨RE, hRE⟩ : ∃ RE : Int, (if N ≤ 1000000 then 0 else 1 : Int) = RE := ⟨_, rfl⟩
 rw [hRV, hRE]
 have HBIG : Hid (¬ N ≤ 1000000 → RV = 0 ∧ RE = 1) := Lib.hid (fun h => ⟨by rw [← hRV, if_neg h], by rw [← hRE, if_neg h]⟩)
 have HSML : Hid (N ≤ 1000000 → RV = N ∧ RE = 0) := Lib.hid (fun h => ⟨by rw [← hRV, if_pos h], by rw [← hRE, if_pos h]⟩)
 have HSH := Lib.hid hsh
 have HSI := Lib.hid hsi
 have HM := Lib.hid hM
 have HL4 := Lib.hid p4
 have HDF : Hid (∀ x, x ≤ dval (d ++ f) → x ≤ N) := Lib.hid (fun x hx => by
  have := dval_pre (d ++ f) (zs (4 - f.length))
  rw [hN] at this; omega)
 have hw1 : wrap64 ((s.size : Int) - 1) = (M : Int) := by unfold wrap64; omega
 have HW1 := Lib.hid hw1
 clear hw1
 obtain ⟨D, hD⟩ : ∃ D, d.length = D := ⟨_, rfl⟩
 have HD := Lib.hid hD
 rw [hD] at RP
 have hDM : D ≤ M := by rw [← hM, ← hD, List.length_append]; omega
 clear RF0 RP0 hok el p1 p2 p3 p4 p5 p6 hpl hrE hrV hM hsi hN hsh hD hRV hRE
 go_enter Tryz.func77, Tryz.ntmps77
 go_wp2_with fail
 refine (RF.out _).mono ?_
 rintro e w1 ⟨rfl, rfl⟩
 go_wp2_with fail
 refine (RP.out _).mono ?_
 rintro e w1 ⟨rfl, rfl⟩
 go_wp2_with fail
 go_loop [5, 6, 7] (fun n q i => ∃ (a b k : Nat), n = .int .i64 a ∧ q = .int .i64 b ∧ i = .int .i64 k ∧ k ≤ M ∧ a ≤ 1000000 ∧ b ≤ k ∧ RSt d f k a b) (fun _ _ i => M - (RowKit.intOf i).toNat)
 case atStart => exact ⟨0, 0, 0, rfl, rfl, rfl, by omega, by omega, by omega, rst_start HSH.out⟩
 case round =>
  obtain ⟨a, b, k, rfl, rfl, rfl, hk, ha, hb, hR⟩ := hrel
  have HR := Lib.hid hR
  by_cases hlt : k < M
  ·have hkz : (k : Int) < (M : Int) := by omega
   have hks : k < s.size := by omega
   have hksz : (k : Int) < (s.size : Int) := by omega
   have hk2 : k < (d ++ tl f).length := by rw [HM.out]; exact hlt
   have hgi := HSI.out k hks hk2
   have RB := RD.out s[k]
   cases hB : dig s[k]
   ·rw [hB] at RB
    have HRB := Lib.hid RB
    have hst := rst_skip HSH.out HR.out hk2 (by rw [← hgi]; exact hB)
    have HST := Lib.hid hst
    have hw1 := HW1.out
    clear RB hB hst hgi hR
    go_wp2_with fail
    refine (HRB.out _).mono ?_
    rintro e w1 ⟨rfl, rfl⟩
    go_wp2_with fail
    go_round
    case rel => clear hw1; exact ⟨a, b, k + 1, rfl, rfl, by go_num, by omega, by omega, by omega, HST.out⟩
    case measure => clear hw1; simp [RowKit.intOf]; omega
   ·rw [hB] at RB
    have HRB := Lib.hid RB
    have hst := rst_dig HSH.out HR.out hk2 (by rw [← hgi]; exact hB)
    rw [← hgi] at hst
    obtain ⟨_, hst1, hst2⟩ := hst
    have hs48 := sub48 s[k] hB
    have hz9 := dig_nine hB
    have hkd : (if d.length < k then b + 1 else b) = (if D < k then b + 1 else b) := by rw [HD.out]
    rw [hkd] at hst1
    obtain ⟨z, hz⟩ : ∃ z, s[k].toNat - 48 = z := ⟨_, rfl⟩
    rw [hz] at hst1 hst2 hs48 hz9
    have HS48 := Lib.hid hs48
    clear hs48 hz
    have HS1 := Lib.hid hst1
    have HS2 := Lib.hid hst2
    clear RB hB hst1 hst2 hgi hR hkd
    by_cases hm : 1000000 < 10 * a + z
    ·have hmz2 : (1000000 : Int) < 10 * (a : Int) + (z : Int) := by omega
     have HN2 := Lib.hid (HBIG.out (Nat.not_le.2 (Nat.lt_of_lt_of_le hm (HDF.out _ HS2.out))))
     obtain ⟨hw2, hw4⟩ := ten_more a z ha hz9
     have hs48 := HS48.out
     have hw1 := HW1.out
     clear HS1 HS2 hm
     go_wp2_with fail
     refine (HRB.out _).mono ?_
     rintro e w1 ⟨rfl, rfl⟩
     go_wp2_with fail
     go_ret2
     obtain ⟨rfl, rfl⟩ := HN2.out
     exact ⟨rfl, rfl⟩
    ·have hmz2 : ¬ (1000000 : Int) < 10 * (a : Int) + (z : Int) := by omega
     have hm2 : 10 * a + z ≤ 1000000 := by omega
     have HS3 := Lib.hid (HS1.out hm2)
     clear HS1 HS2 hm
     by_cases hDk : D < k
     ·have hDz : (D : Int) < (k : Int) := by omega
      have HS4 : Hid (RSt d f (k + 1) (10 * a + z) (b + 1)) := Lib.hid (by have := HS3.out; rwa [if_pos hDk] at this)
      clear HS3
      obtain ⟨hw2, hw4⟩ := ten_more a z ha hz9
      have hs48 := HS48.out
      have hw1 := HW1.out
      go_wp2_with fail
      refine (HRB.out _).mono ?_
      rintro e w1 ⟨rfl, rfl⟩
      go_wp2_with fail
      go_round
      case rel => clear hw2 hw4 hs48 hw1; exact ⟨10 * a + z, b + 1, k + 1, by first | rfl | go_num, by first | rfl | go_num, by go_num, by omega, by omega, by omega, HS4.out⟩
      case measure => clear hw2 hw4 hs48 hw1; simp [RowKit.intOf]; omega
     ·have hDz : ¬ (D : Int) < (k : Int) := by omega
      have HS4 : Hid (RSt d f (k + 1) (10 * a + z) b) := Lib.hid (by have := HS3.out; rwa [if_neg hDk] at this)
      clear HS3
      obtain ⟨hw2, hw4⟩ := ten_more a z ha hz9
      have hs48 := HS48.out
      have hw1 := HW1.out
      go_wp2_with fail
      refine (HRB.out _).mono ?_
      rintro e w1 ⟨rfl, rfl⟩
      go_wp2_with fail
      go_round
      case rel => clear hw2 hw4 hs48 hw1; exact ⟨10 * a + z, b, k + 1, by first | rfl | go_num, rfl, by go_num, by omega, by omega, by omega, HS4.out⟩
      case measure => clear hw2 hw4 hs48 hw1; simp [RowKit.intOf]; omega
  ·have he : k = M := by omega
   subst he
   have hR2 := hR
   rw [← HM.out] at hR2
   obtain ⟨r1, r2⟩ := rst_end hR2
   have HE1 := Lib.hid r1
   have HE2 := Lib.hid r2
   have hw1 := HW1.out
   clear hR hR2 r1 r2
   go_wp2_with fail
   clear hw1
   go_loop [5, 6] (fun n q => ∃ (j a : Nat), n = .int .i64 a ∧ q = .int .i64 ((f.length + j : Nat) : Int) ∧ f.length + j ≤ 4 ∧ a = dval (d ++ f ++ zs j) ∧ a ≤ 1000000 * 10 ^ j) (fun _ q => 4 - (RowKit.intOf q).toNat)
   case atStart => exact ⟨0, a, rfl, by rw [← HE2.out]; rfl, by have := HL4.out; omega, by rw [dval_zs0]; exact HE1.out, by omega⟩
   case round =>
    obtain ⟨j, a, rfl, rfl, hj, haj, hab⟩ := hrel
    have HAJ := Lib.hid haj
    clear haj
    obtain ⟨F, hF⟩ : ∃ F, f.length = F := ⟨_, rfl⟩
    rw [hF] at hj ⊢
    have HF := Lib.hid hF
    clear hF
    by_cases hlt : F + j < 4
    ·have hz : ((F + j : Nat) : Int) < 4 := by omega
     have hz2 : (F : Int) + (j : Int) < 4 := by omega
     have hw2 := ten_zero a j (by omega) hab
     have hw3 := one_more F j (by omega)
     have HA2 : Hid (10 * a = dval (d ++ f ++ zs (j + 1)) ∧ 10 * a ≤ 1000000 * 10 ^ (j + 1)) := Lib.hid ⟨by rw [dval_zs, ← HAJ.out], by clear hw2 hw3; rw [Nat.pow_succ]; omega⟩
     clear hab
     go_wp2_with fail
     go_round
     case rel =>
      have HW2 := Lib.hid hw2
      clear hw2 hw3
      exact ⟨j + 1, 10 * a, by first | rfl | (rw [HW2.out]; done) | (rw [HW2.out]; go_num), by first | rfl | go_num, by omega, HA2.out.1, HA2.out.2⟩
     case measure => simp [RowKit.intOf]; omega
    ·have hz : ¬ ((F + j : Nat) : Int) < 4 := by omega
     have hz2 : ¬ (F : Int) + (j : Int) < 4 := by omega
     have hNa : N = a := by
      rw [HAJ.out, ← HDN.out, show 4 - f.length = j from by rw [HF.out]; omega]
     subst hNa
     by_cases hm : N ≤ 1000000
     ·have hmz : ¬ (1000000 : Int) < (N : Int) := by omega
      have HZ := Lib.hid (HSML.out hm)
      clear hab HDF
      go_wp2_with fail
      go_ret2
      obtain ⟨z1, z2⟩ := HZ.out
      rw [z1, z2]
      exact ⟨rfl, rfl⟩
     ·have hmz : (1000000 : Int) < (N : Int) := by omega
      have HZ := Lib.hid (HBIG.out hm)
      clear hab HDF
      go_wp2_with fail
      go_ret2
      obtain ⟨z1, z2⟩ := HZ.out
      rw [z1, z2]
      exact ⟨rfl, rfl⟩
end Go.Proofs.YtplkphihmfhciaaGreatDoor
