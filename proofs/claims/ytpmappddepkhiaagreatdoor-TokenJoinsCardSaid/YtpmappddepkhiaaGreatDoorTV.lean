/-
  Tokens: contracts of the document's own digit, plain, form.
-/
import Derived.Test.YtpmappddepkhiaaGreatDoorTZ
namespace Go.Proofs.YtpmappddepkhiaaGreatDoor
open Go Go.RowKit Go.Lib WM TM

theorem rdigit (c : UInt8) (w : World) :
    Calls Tryz.prog 39 #[.int .u8 (c.toNat : Int)] w fun e w' => e = .returned (.bool (dig c)) ∧ w = w' := by
  by_cases h1 : (48 : Int) ≤ (c.toNat : Int)
  · by_cases h2 : (c.toNat : Int) ≤ 57
    · have e : dig c = true := by simp only [dig, decide_eq_true_eq]; exact ⟨h1, h2⟩
      rw [e]
      clear e
      go_enter Tryz.func39, Tryz.ntmps39
      go_wp2_with fail
      go_ret
      exact ⟨rfl, rfl⟩
    · have e : dig c = false := by simp only [dig, decide_eq_false_iff_not]; exact fun h => h2 h.2
      rw [e]
      clear e
      go_enter Tryz.func39, Tryz.ntmps39
      go_wp2_with fail
      go_ret
      exact ⟨rfl, rfl⟩
  · have e : dig c = false := by simp only [dig, decide_eq_false_iff_not]; exact fun h => h1 h.1
    rw [e]
    clear e
    go_enter Tryz.func39, Tryz.ntmps39
    go_wp2_with fail
    go_ret
    exact ⟨rfl, rfl⟩
theorem byt_get (s : ByteArray) (k : Nat) (h : k < s.size) : s[k] = (byt s)[k]'(by rw [byt_len]; exact h) := rfl
theorem pln_le (l : List UInt8) : pln l ≤ l.length := by
  unfold pln
  split
  · omega
  · exact sp_le _ _
theorem head_at {s : ByteArray} (h : 0 < s.size) : (byt s).head? = some s[0] := by
  rw [byt_get s 0 h]
  have key : ∀ (l : List UInt8) (hl : 0 < l.length), l.head? = some l[0] := by
    intro l hl
    cases l with
    | nil => exact absurd hl (by decide)
    | cons c t => simp
  exact key (byt s) (by rw [byt_len]; exact h)
theorem u8_int (c : UInt8) (n : Nat) (hn : n < 256) : ((c.toNat : Int) = (n : Int)) ↔ c = UInt8.ofNat n := by
  constructor
  · intro h
    have h1 : c.toNat = n := by omega
    rw [← h1, UInt8.ofNat_toNat]
  · intro h
    rw [h, UInt8.toNat_ofNat', Nat.mod_eq_of_lt hn]

set_option maxRecDepth 100000 in
set_option maxHeartbeats 2000000 in
theorem rplain (s : ByteArray) (hs : s.size ≤ 9223372036854775806) (w : World) :
    Calls Tryz.prog 40 #[.string s] w fun e w' => e = .returned (.int .i64 ((pln (byt s) : Nat) : Int)) ∧ w = w' := by
  have RD := Lib.hid (fun c W => rdigit c W)
  obtain ⟨P, hP⟩ : ∃ P, pln (byt s) = P := ⟨_, rfl⟩
  have HP : Hid (∀ k, sp dig (byt s) = k → P = if 1 < k ∧ (byt s).head? = some 48 then 0 else k) := Lib.hid (fun k hk => by rw [← hP, ← hk]; rfl)
  rw [hP]
  clear hP
  go_enter Tryz.func40, Tryz.ntmps40
  go_wp2_with fail
  go_loop [3] (fun i => ∃ (k : Nat), k ≤ s.size ∧ i = .int .i64 k ∧ ∀ j, (hj : j < k) → ∃ h : j < (byt s).length, dig ((byt s)[j]) = true) (fun i => s.size - (RowKit.intOf i).toNat)
  case atStart => exact ⟨0, by omega, rfl, fun j hj => absurd hj (Nat.not_lt_zero _)⟩
  case round =>
    obtain ⟨k, hk, rfl, hall⟩ := hrel
    have HA := Lib.hid hall
    clear hall
    by_cases hlt : k < s.size
    · have hkz : (k : Int) < (s.size : Int) := by omega
      have RB := RD.out s[k]
      have hg := byt_get s k hlt
      obtain ⟨B, hB⟩ : ∃ B, dig s[k] = B := ⟨_, rfl⟩
      rw [hB] at RB
      have HB : Hid (dig ((byt s)[k]'(by rw [byt_len]; exact hlt)) = B) := Lib.hid (by rw [← hg]; exact hB)
      have HR := Lib.hid RB
      clear RB hB hg
      cases B
      · have HS : Hid (sp dig (byt s) = k) := Lib.hid (sp_at _ _ k (by rw [byt_len]; exact hlt) (fun j hj => (HA.out j hj).2) HB.out)
        by_cases h1 : 1 < k
        · have h1z : (1 : Int) < (k : Int) := by omega
          have hs0 : 0 < s.size := by omega
          have hs0z : (0 : Int) < (s.size : Int) := by omega
          have hd0 := head_at hs0
          by_cases h2 : (s[0].toNat : Int) = 48
          · have HQ : Hid (P = 0) := Lib.hid (by rw [HP.out _ HS.out, hd0, (u8_int s[0] 48 (by decide)).1 h2, if_pos ⟨h1, rfl⟩])
            clear hd0
            go_wp2_with fail
            refine (HR.out _).mono ?_
            rintro e w1 ⟨rfl, rfl⟩
            go_wp2_with fail
            go_ret
            exact ⟨by rw [HQ.out]; rfl, rfl⟩
          · have HQ : Hid (P = k) := Lib.hid (by
              rw [HP.out _ HS.out, if_neg]
              rintro ⟨_, h3⟩
              rw [hd0] at h3
              exact h2 ((u8_int s[0] 48 (by decide)).2 (Option.some.inj h3)))
            have h2b : ((s[0].toNat : Int) == 48) = false := by rw [beq_eq_false_iff_ne]; exact h2
            clear hd0
            go_wp2_with fail
            refine (HR.out _).mono ?_
            rintro e w1 ⟨rfl, rfl⟩
            go_wp2_with fail
            go_ret
            exact ⟨by rw [HQ.out]; rfl, rfl⟩
        · have h1z : ¬ (1 : Int) < (k : Int) := by omega
          have HQ : Hid (P = k) := Lib.hid (by rw [HP.out _ HS.out, if_neg (fun h => h1 h.1)])
          go_wp2_with fail
          refine (HR.out _).mono ?_
          rintro e w1 ⟨rfl, rfl⟩
          go_wp2_with fail
          go_ret
          exact ⟨by rw [HQ.out]; rfl, rfl⟩
      · go_wp2_with fail
        refine (HR.out _).mono ?_
        rintro e w1 ⟨rfl, rfl⟩
        go_wp2_with fail
        go_round
        case rel =>
          refine ⟨k + 1, by omega, by go_num, fun j hj => ?_⟩
          by_cases hjk : j < k
          · exact HA.out j hjk
          · have : j = k := by omega
            subst this
            exact ⟨by rw [byt_len]; exact hlt, HB.out⟩
        case measure => simp [RowKit.intOf]; omega
    · have he : k = s.size := by omega
      subst he
      have HS : Hid (sp dig (byt s) = s.size) := Lib.hid (by rw [sp_all _ _ (fun j hj => (HA.out j (by rw [← byt_len]; exact hj)).2), byt_len])
      by_cases h1 : 1 < s.size
      · have h1z : (1 : Int) < (s.size : Int) := by omega
        have hs0 : 0 < s.size := by omega
        have hs0z : (0 : Int) < (s.size : Int) := by omega
        have hd0 := head_at hs0
        by_cases h2 : (s[0].toNat : Int) = 48
        · have HQ : Hid (P = 0) := Lib.hid (by rw [HP.out _ HS.out, hd0, (u8_int s[0] 48 (by decide)).1 h2, if_pos ⟨h1, rfl⟩])
          clear hd0
          go_wp2_with fail
          go_ret
          exact ⟨by rw [HQ.out]; rfl, rfl⟩
        · have HQ : Hid (P = s.size) := Lib.hid (by
            rw [HP.out _ HS.out, if_neg]
            rintro ⟨_, h3⟩
            rw [hd0] at h3
            exact h2 ((u8_int s[0] 48 (by decide)).2 (Option.some.inj h3)))
          have h2b : ((s[0].toNat : Int) == 48) = false := by rw [beq_eq_false_iff_ne]; exact h2
          clear hd0
          go_wp2_with fail
          go_ret
          exact ⟨by rw [HQ.out]; rfl, rfl⟩
      · have h1z : ¬ (1 : Int) < (s.size : Int) := by omega
        have HQ : Hid (P = s.size) := Lib.hid (by rw [HP.out _ HS.out, if_neg (fun h => h1 h.1)])
        go_wp2_with fail
        go_ret
        exact ⟨by rw [HQ.out]; rfl, rfl⟩

theorem fm_nil : fm [] = true := rfl
theorem fm_parts {m : List UInt8} (h : m ≠ []) : fm m = (decide (2 ≤ m.length) && (decide (m.length ≤ 5) && (m.head? == some 46 && (m.getLast? != some 48 && m.tail.all dig)))) := by
  unfold fm
  cases m with
  | nil => exact absurd rfl h
  | cons c t => rfl
theorem last_at {s : ByteArray} (h : 0 < s.size) : (byt s).getLast? = some (s[s.size - 1]'(by omega)) := by
  rw [List.getLast?_eq_getElem?, List.getElem?_eq_getElem (by rw [byt_len]; omega)]
  congr 1
set_option maxRecDepth 100000 in
set_option maxHeartbeats 8000000 in
theorem rform (s : ByteArray) (hs : s.size ≤ 9223372036854775806) (w : World) :
    Calls Tryz.prog 42 #[.string s] w fun e w' => e = .returned (.bool (frm (byt s))) ∧ w = w' := by
  have RD := Lib.hid (fun c W => rdigit c W)
  have RP0 := fun W => rplain s hs W
  have hple := pln_le (byt s)
  rw [byt_len] at hple
  obtain ⟨R, hR⟩ : ∃ R, frm (byt s) = R := ⟨_, rfl⟩
  rw [hR]
  unfold frm at hR
  obtain ⟨P, hP⟩ : ∃ P, pln (byt s) = P := ⟨_, rfl⟩
  rw [hP] at hR RP0 hple
  have RP := Lib.hid RP0
  by_cases hP0 : P = 0
  · have HR : Hid (R = false) := Lib.hid (by rw [← hR, hP0]; rfl)
    have hPz : (P : Int) = 0 := by omega
    clear RP0 hR hP
    subst hP0
    go_enter Tryz.func42, Tryz.ntmps42
    go_wp2_with fail
    refine (RP.out _).mono ?_
    rintro e w1 ⟨rfl, rfl⟩
    go_wp2_with fail
    go_ret
    exact ⟨by rw [HR.out]; rfl, rfl⟩
  have hs0 : 0 < s.size := by omega
  have hl := last_at hs0
  rw [hl, decide_eq_true hP0, Bool.true_and] at hR
  have hPz : ((P : Int) == 0) = false := by rw [beq_eq_false_iff_ne]; omega
  have hw1 : wrap64 ((s.size : Int) - 1) = ((s.size - 1 : Nat) : Int) := by unfold wrap64; omega
  obtain ⟨m, hm⟩ : ∃ m, s.size - 1 = m := ⟨_, rfl⟩
  have hmlt : m < s.size := by omega
  have hgm : ∀ h : s.size - 1 < s.size, s[s.size - 1]'h = s[m]'hmlt := by intro h; simp [hm]
  rw [hgm] at hR
  rw [hm] at hw1
  have hmz : (m : Int) < (s.size : Int) := by omega
  have hm0 : ¬ (m : Int) < 0 := by omega
  by_cases h37 : (s[m].toNat : Int) = 37
  · have hc := (u8_int s[m] 37 (by decide)).1 h37
    have hc1 : (some s[m] == some 37) = true := by rw [hc]; rfl
    rw [hc1, Bool.true_and] at hR
    have hvl : vl (byt s) = (byt s).take m := by unfold vl; rw [byt_len, hm]
    have hPm : P ≤ m := by
      rcases Nat.lt_or_ge m P with h | h
      · exfalso
        have h1 : P = s.size := by omega
        have h2 : P ≤ sp dig (byt s) := by rw [← hP]; unfold pln; split <;> omega
        obtain ⟨h3, h4⟩ := sp_lt dig (byt s) m (by omega)
        rw [← byt_get s m hmlt, hc] at h4
        exact absurd h4 (by decide)
      · exact h
    have hcut : byt (s.extract P m) = (vl (byt s)).drop P := by rw [str_cut, byt_str, hvl]; rfl
    rw [← hcut] at hR
    obtain ⟨S, hS⟩ : ∃ S, s.extract P m = S := ⟨_, rfl⟩
    rw [hS] at hR
    have hPmz : (P : Int) ≤ (m : Int) := by omega
    have hmsz : (m : Int) ≤ (s.size : Int) := by omega
    have hlen := byt_len S
    clear hcut hvl hc1 hl hgm RP0 hP hc
    by_cases hS0 : S.size = 0
    · have hb : byt S = [] := List.eq_nil_of_length_eq_zero (by rw [hlen]; exact hS0)
      have HR : Hid (R = true) := Lib.hid (by rw [← hR, hb]; rfl)
      have hne : S.toList.isEmpty = true := by rw [toList_data]; show (byt S).isEmpty = true; rw [hb]; rfl
      clear hR hb
      go_enter Tryz.func42, Tryz.ntmps42
      go_wp2_with fail
      refine (RP.out _).mono ?_
      rintro e w1 ⟨rfl, rfl⟩
      go_wp2_with fail
      go_ret
      exact ⟨by rw [HR.out]; rfl, rfl⟩
    have hbn : byt S ≠ [] := fun e => hS0 (by rw [← hlen, e]; rfl)
    rw [fm_parts hbn, hlen] at hR
    have hne : S.toList.isEmpty = false := by
      rw [toList_data]
      show (byt S).isEmpty = false
      cases hb : byt S with
      | nil => exact absurd hb hbn
      | cons c t => rfl
    by_cases hS2 : S.size < 2
    · have HR : Hid (R = false) := Lib.hid (by rw [← hR, decide_eq_false (by omega)]; rfl)
      have hS2z : (S.size : Int) < 2 := by omega
      clear hR
      go_enter Tryz.func42, Tryz.ntmps42
      go_wp2_with fail
      refine (RP.out _).mono ?_
      rintro e w1 ⟨rfl, rfl⟩
      go_wp2_with fail
      go_ret
      exact ⟨by rw [HR.out]; rfl, rfl⟩
    have hS2z : ¬ (S.size : Int) < 2 := by omega
    rw [decide_eq_true (by omega : 2 ≤ S.size), Bool.true_and] at hR
    by_cases hS5 : 5 < S.size
    · have HR : Hid (R = false) := Lib.hid (by rw [← hR, decide_eq_false (by omega)]; rfl)
      have hS5z : (5 : Int) < (S.size : Int) := by omega
      clear hR
      go_enter Tryz.func42, Tryz.ntmps42
      go_wp2_with fail
      refine (RP.out _).mono ?_
      rintro e w1 ⟨rfl, rfl⟩
      go_wp2_with fail
      go_ret
      exact ⟨by rw [HR.out]; rfl, rfl⟩
    have hS5z : ¬ (5 : Int) < (S.size : Int) := by omega
    rw [decide_eq_true (by omega : S.size ≤ 5), Bool.true_and] at hR
    have hSp : 0 < S.size := by omega
    have hSpz : (0 : Int) < (S.size : Int) := by omega
    rw [head_at hSp] at hR
    by_cases h46 : (S[0].toNat : Int) = 46
    · have hc := (u8_int S[0] 46 (by decide)).1 h46
      have hc1 : (some S[0] == some 46) = true := by rw [hc]; rfl
      rw [hc1, Bool.true_and, last_at hSp] at hR
      have hw2 : wrap64 ((S.size : Int) - 1) = ((S.size - 1 : Nat) : Int) := by unfold wrap64; omega
      obtain ⟨q, hq⟩ : ∃ q, S.size - 1 = q := ⟨_, rfl⟩
      have hqlt : q < S.size := by omega
      have hgq : ∀ h : S.size - 1 < S.size, S[S.size - 1]'h = S[q]'hqlt := by intro h; simp [hq]
      rw [hgq] at hR
      rw [hq] at hw2
      have hqz : (q : Int) < (S.size : Int) := by omega
      have hq0 : ¬ (q : Int) < 0 := by omega
      clear hgq hc hc1
      by_cases h48 : (S[q].toNat : Int) = 48
      · have hc := (u8_int S[q] 48 (by decide)).1 h48
        have HR : Hid (R = false) := Lib.hid (by rw [← hR, hc]; rfl)
        clear hR hc
        go_enter Tryz.func42, Tryz.ntmps42
        go_wp2_with fail
        refine (RP.out _).mono ?_
        rintro e w1 ⟨rfl, rfl⟩
        go_wp2_with fail
        go_ret
        exact ⟨by rw [HR.out]; rfl, rfl⟩
      · have hc1 : (some S[q] != some 48) = true := by
          rw [bne_iff_ne]
          intro e
          exact h48 ((u8_int S[q] 48 (by decide)).2 (Option.some.inj e))
        rw [hc1, Bool.true_and] at hR
        have h48b : ((S[q].toNat : Int) == 48) = false := by rw [beq_eq_false_iff_ne]; exact h48
        have HR : Hid (R = (byt S).tail.all dig) := Lib.hid hR.symm
        clear hR hc1
        go_enter Tryz.func42, Tryz.ntmps42
        go_wp2_with fail
        refine (RP.out _).mono ?_
        rintro e w1 ⟨rfl, rfl⟩
        go_wp2_with fail
        go_loop [4] (fun i => ∃ (k : Nat), 1 ≤ k ∧ k ≤ S.size ∧ i = .int .i64 k ∧ ∀ j, (hj : j < k) → 1 ≤ j → ∃ h : j < (byt S).length, dig ((byt S)[j]) = true) (fun i => S.size - (RowKit.intOf i).toNat)
        case atStart => exact ⟨1, by omega, by omega, rfl, fun j hj h1 => by omega⟩
        case round =>
          obtain ⟨k, hk1, hk, rfl, hall⟩ := hrel
          have HA := Lib.hid hall
          clear hall
          by_cases hlt : k < S.size
          · have hkz : (k : Int) < (S.size : Int) := by omega
            have RB := RD.out S[k]
            have hg := byt_get S k hlt
            obtain ⟨B, hB⟩ : ∃ B, dig S[k] = B := ⟨_, rfl⟩
            rw [hB] at RB
            have HB : Hid (dig ((byt S)[k]'(by rw [byt_len]; exact hlt)) = B) := Lib.hid (by rw [← hg]; exact hB)
            have HRB := Lib.hid RB
            clear RB hB hg
            cases B
            · have HQ : Hid (R = false) := Lib.hid (by
                rw [HR.out, List.all_eq_false]
                refine ⟨(byt S)[k]'(by rw [byt_len]; exact hlt), ?_, by rw [HB.out]; decide⟩
                rw [← List.drop_one]
                have h5 : (byt S)[k]'(by rw [byt_len]; exact hlt) = ((byt S).drop 1)[k - 1]'(by rw [List.length_drop, byt_len]; omega) := by
                  rw [List.getElem_drop]
                  congr 1
                  omega
                rw [h5]
                exact List.getElem_mem _)
              go_wp2_with fail
              refine (HRB.out _).mono ?_
              rintro e w1 ⟨rfl, rfl⟩
              go_wp2_with fail
              go_ret
              exact ⟨by rw [HQ.out]; rfl, rfl⟩
            · go_wp2_with fail
              refine (HRB.out _).mono ?_
              rintro e w1 ⟨rfl, rfl⟩
              go_wp2_with fail
              go_round
              case rel =>
                refine ⟨k + 1, by omega, by omega, by go_num, fun j hj hj1 => ?_⟩
                by_cases hjk : j < k
                · exact HA.out j hjk hj1
                · have : j = k := by omega
                  subst this
                  exact ⟨by rw [byt_len]; exact hlt, HB.out⟩
              case measure => simp [RowKit.intOf]; omega
          · have he : k = S.size := by omega
            subst he
            have HQ : Hid (R = true) := Lib.hid (by
              rw [HR.out, List.all_eq_true]
              intro c hc
              rw [← List.drop_one] at hc
              obtain ⟨j, hj, e⟩ := List.getElem_of_mem hc
              rw [List.length_drop, byt_len] at hj
              rw [List.getElem_drop] at e
              obtain ⟨_, h6⟩ := HA.out (1 + j) (by omega) (by omega)
              rw [e] at h6; exact h6)
            go_wp2_with fail
            go_ret
            exact ⟨by rw [HQ.out]; rfl, rfl⟩
    · have hc1 : (some S[0] == some 46) = false := by
        rw [beq_eq_false_iff_ne]
        intro e
        exact h46 ((u8_int S[0] 46 (by decide)).2 (Option.some.inj e))
      have HR : Hid (R = false) := Lib.hid (by rw [← hR, hc1]; rfl)
      have h46b : ((S[0].toNat : Int) != 46) = true := by rw [bne_iff_ne]; exact h46
      clear hR hc1
      go_enter Tryz.func42, Tryz.ntmps42
      go_wp2_with fail
      refine (RP.out _).mono ?_
      rintro e w1 ⟨rfl, rfl⟩
      go_wp2_with fail
      go_ret
      exact ⟨by rw [HR.out]; rfl, rfl⟩
  · have hc1 : (some s[m] == some 37) = false := by
      rw [beq_eq_false_iff_ne]
      intro e
      exact h37 ((u8_int s[m] 37 (by decide)).2 (Option.some.inj e))
    have HR : Hid (R = false) := Lib.hid (by rw [← hR, hc1]; rfl)
    have h37b : ((s[m].toNat : Int) != 37) = true := by rw [bne_iff_ne]; exact h37
    clear hR hc1 hl hgm RP0 hP
    go_enter Tryz.func42, Tryz.ntmps42
    go_wp2_with fail
    refine (RP.out _).mono ?_
    rintro e w1 ⟨rfl, rfl⟩
    go_wp2_with fail
    go_ret
    exact ⟨by rw [HR.out]; rfl, rfl⟩
end Go.Proofs.YtpmappddepkhiaaGreatDoor
