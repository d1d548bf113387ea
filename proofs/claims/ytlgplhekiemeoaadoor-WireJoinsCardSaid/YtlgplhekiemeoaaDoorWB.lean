/-
  Decimal forms: contracts of package wire's decimal, and of the document's own Natural.
-/
import Derived.Test.YtlgplhekiemeoaaDoorWA
namespace Go.Proofs.YtlgplhekiemeoaaDoor
open Go Go.RowKit Go.Lib WM

theorem dig_not (s : ByteArray) (k : Nat) (h : k < s.size) (hd : dig s[k] = false) : allDig s.data.toList = false := by
  cases h' : allDig s.data.toList
  · rfl
  · unfold allDig at h'
    rw [List.all_eq_true] at h'
    have h2 : s[k] ∈ s.data.toList := by
      have : s[k] = s.data.toList[k]'(by rw [size_list]; exact h) := rfl
      rw [this]; exact List.getElem_mem _
    rw [h' _ h2] at hd; cases hd
theorem dig_at (s : ByteArray) (k : Nat) (h : k < s.size) (ha : allDig s.data.toList = true) : 48 ≤ (s[k].toNat : Int) ∧ (s[k].toNat : Int) ≤ 57 := by
  unfold allDig at ha
  rw [List.all_eq_true] at ha
  have h2 : s[k] ∈ s.data.toList := by
    have : s[k] = s.data.toList[k]'(by rw [size_list]; exact h) := rfl
    rw [this]; exact List.getElem_mem _
  simpa [dig] using ha _ h2
theorem allDig_next (s : ByteArray) (k : Nat) (h : k < s.size) (ha : allDig (s.data.toList.take k) = true) (hd : dig s[k] = true) : allDig (s.data.toList.take (k + 1)) = true := by
  rw [WM.take_snoc s k h, allDig_snoc, ha, hd]; rfl

/-- The three forms of what stands behind a sign. -/
theorem forms (U : ByteArray) (G : Bool) : (U = ⟨#[]⟩ ∧ shortB U.data.toList G = false) ∨ (U = ⟨#[48]⟩ ∧ (shortB U.data.toList G && allDig U.data.toList) = !G) ∨
    (∃ h : 0 < U.size, U[0] = 48 ∧ (¬ U.toList = [] ∧ ¬ U.toList = [48]) ∧ shortB U.data.toList G = false) ∨ (∃ h : 0 < U.size, U[0] ≠ 48 ∧ (¬ U.toList = [] ∧ ¬ U.toList = [48]) ∧ shortB U.data.toList G = true) := by
  obtain ⟨⟨l⟩⟩ := U
  cases l with
  | nil => exact Or.inl ⟨rfl, rfl⟩
  | cons c t =>
    have h0 : 0 < (ByteArray.mk ⟨c :: t⟩).size := by simp [ByteArray.size]
    by_cases hc : c = 48
    · subst hc
      cases t with
      | nil => exact Or.inr (Or.inl ⟨rfl, by cases G <;> rfl⟩)
      | cons d t => exact Or.inr (Or.inr (Or.inl ⟨h0, rfl, by rw [Lib.toList_data]; simp, by cases G <;> rfl⟩))
    · refine Or.inr (Or.inr (Or.inr ⟨h0, hc, by rw [Lib.toList_data]; simp [hc], ?_⟩))
      show ((c != 48) || (t.isEmpty && !G)) = true
      have : (c != 48) = true := by rw [bne_iff_ne]; exact hc
      rw [this]; rfl

set_option maxRecDepth 100000 in
set_option maxHeartbeats 1000000 in
theorem mdecimal (s : ByteArray) (hs : s.size ≤ 9223372036854775806) (w : World) :
    Calls Tryd.prog 28 #[.string s] w fun e w' => e = .returned (.bool (tiOk s.data.toList)) ∧ w = w' := by
  obtain ⟨l, hl⟩ : ∃ l, s.data.toList = l := ⟨_, rfl⟩
  have hsz : l.length = s.size := by rw [← hl]; exact size_list s
  have CP := fun W => Tryd.strings_CutPrefix s ⟨#[45]⟩ W
  have e1 : (⟨(Lib.trimPrefix l [45]).toArray⟩ : ByteArray) = str (digs l) := rfl
  have e2 : Lib.hasPrefix l [45] = isNeg l := rfl
  have e3 : (⟨#[45]⟩ : ByteArray).data.toList = [45] := rfl
  rw [e3, hl, e1, e2] at CP
  rw [hl]
  have hT : tiOk l = (shortB (digs l) (isNeg l) && allDig (digs l)) := rfl
  have hul : (digs l).length ≤ s.size := by rw [← hsz]; exact digs_length l
  obtain ⟨U, hU⟩ : ∃ U, str (digs l) = U := ⟨_, rfl⟩
  have hUl : digs l = U.data.toList := by rw [← hU, str_list]
  have hUs : U.size ≤ 9223372036854775806 := by rw [← size_list, ← hUl]; omega
  rw [hUl] at hT
  rw [hU] at CP
  obtain ⟨G, hG⟩ : ∃ G, isNeg l = G := ⟨_, rfl⟩
  rw [hG] at CP hT
  have CQ := Lib.hid CP
  obtain ⟨R, hR⟩ : ∃ R, tiOk l = R := ⟨_, rfl⟩
  rw [hR] at hT ⊢
  have HF := Lib.hid (forms U G)
  have HT := Lib.hid hT
  clear CP hT hl hsz e1 e2 e3 hG hU hUl hul hR
  rcases HF.out with ⟨h1, h2⟩ | ⟨h1, h2⟩ | ⟨h0, h1, ⟨g1, g2⟩, h3⟩ | ⟨h0, h1, ⟨g1, g2⟩, h2⟩
  · have HR : Hid (R = false) := Lib.hid (by rw [HT.out, h2]; rfl)
    subst h1
    clear h2 HF HT
    go_enter Tryd.func28, Tryd.ntmps28
    go_wp2_with fail
    refine (CQ.out _).mono ?_
    rintro e w1 ⟨rfl, rfl⟩
    go_wp2_with fail
    go_ret
    exact ⟨by rw [HR.out]; rfl, rfl⟩
  · have HR : Hid (R = !G) := Lib.hid (by rw [HT.out]; exact h2)
    subst h1
    clear h2 HF HT
    cases G
    all_goals
      go_enter Tryd.func28, Tryd.ntmps28
      go_wp2_with fail
      refine (CQ.out _).mono ?_
      rintro e w1 ⟨rfl, rfl⟩
      go_wp2_with fail
      go_ret
      exact ⟨by rw [HR.out]; rfl, rfl⟩
  · have HR : Hid (R = false) := Lib.hid (by rw [HT.out, h3]; rfl)
    have h4 : (U[0].toNat : Int) = 48 := by rw [h1]; rfl
    clear h3 HF HT h1
    go_enter Tryd.func28, Tryd.ntmps28
    go_wp2_with fail
    refine (CQ.out _).mono ?_
    rintro e w1 ⟨rfl, rfl⟩
    go_wp2_with fail
    go_ret
    exact ⟨by rw [HR.out]; rfl, rfl⟩
  · have HR : Hid (R = allDig U.data.toList) := Lib.hid (by rw [HT.out, h2]; rfl)
    have h4 : ¬ (U[0].toNat : Int) = 48 := by
      intro e; exact h1 (UInt8.toNat_inj.1 (by have : (48 : UInt8).toNat = 48 := rfl; omega))
    have g4 : U.toList.isEmpty = false := by rw [List.isEmpty_eq_false_iff]; exact g1
    have h5 : ((U[0].toNat : Int) == 48) = false := by rw [beq_eq_false_iff_ne]; exact h4
    clear HF HT h1 h2
    go_enter Tryd.func28, Tryd.ntmps28
    go_wp2_with fail
    refine (CQ.out _).mono ?_
    rintro e w1 ⟨rfl, rfl⟩
    go_wp2_with fail
    go_loop [26] (fun i => ∃ k : Nat, k ≤ U.size ∧ i = .int .i64 k ∧ allDig (U.data.toList.take k) = true) (fun i => U.size - (RowKit.intOf i).toNat)
    case atStart => exact ⟨0, by omega, rfl, rfl⟩
    case round =>
      obtain ⟨k, hk, rfl, hall⟩ := hrel
      have HA := Lib.hid hall
      clear hall
      by_cases hlt : k < U.size
      · have hkz : (k : Int) < (U.size : Int) := by omega
        cases hc : dig U[k]
        · have HN : Hid (allDig U.data.toList = false) := Lib.hid (dig_not U k hlt hc)
          simp only [dig, decide_eq_false_iff_not] at hc
          by_cases h65 : (U[k].toNat : Int) < 48
          · have hd1 : decide ((U[k].toNat : Int) < 48) = true := by simpa using h65
            clear hc
            go_wp2_with fail
            go_ret
            exact ⟨by rw [HR.out, HN.out]; rfl, rfl⟩
          · have h90 : (57 : Int) < (U[k].toNat : Int) := by omega
            have hd1 : decide ((U[k].toNat : Int) < 48) = false := by simpa using h65
            have hd2 : decide ((57 : Int) < (U[k].toNat : Int)) = true := by simpa using h90
            clear hc
            go_wp2_with fail
            go_ret
            exact ⟨by rw [HR.out, HN.out]; rfl, rfl⟩
        · have HT := Lib.hid hc
          simp only [dig, decide_eq_true_eq] at hc
          obtain ⟨c0, c1⟩ := hc
          have hd1 : decide ((U[k].toNat : Int) < 48) = false := by simp; omega
          have hd2 : decide ((57 : Int) < (U[k].toNat : Int)) = false := by simp; omega
          go_wp2_with fail
          go_round
          case rel => exact ⟨k + 1, by omega, by go_num, allDig_next U k hlt HA.out HT.out⟩
          case measure => simp [RowKit.intOf]; omega
      · have he : k = U.size := by omega
        subst he
        have hall := HA.out
        rw [List.take_of_length_le (by rw [size_list]; omega)] at hall
        have HN := Lib.hid hall
        clear hall
        go_wp2_with fail
        go_ret
        exact ⟨by rw [HR.out, HN.out]; rfl, rfl⟩

set_option maxRecDepth 100000 in
set_option maxHeartbeats 1000000 in
theorem rnat_text (s : ByteArray) (hs : s.size ≤ 9223372036854775806) (w : World) :
    Calls Tryd.prog 30 #[.string s] w fun e w' => e = .returned (.bool (shortB s.data.toList false && allDig s.data.toList)) ∧ w = w' := by
  obtain ⟨R, hR⟩ : ∃ R, (shortB s.data.toList false && allDig s.data.toList) = R := ⟨_, rfl⟩
  rw [hR]
  have HT := Lib.hid hR
  have HF := Lib.hid (forms s false)
  clear hR
  go_enter Tryd.func30, Tryd.ntmps30
  go_wp2_with fail
  go_loop [3] (fun i => ∃ k : Nat, k ≤ s.size ∧ i = .int .i64 k ∧ allDig (s.data.toList.take k) = true) (fun i => s.size - (RowKit.intOf i).toNat)
  case atStart => exact ⟨0, by omega, rfl, rfl⟩
  case round =>
    obtain ⟨k, hk, rfl, hall⟩ := hrel
    have HA := Lib.hid hall
    clear hall
    by_cases hlt : k < s.size
    · have hkz : (k : Int) < (s.size : Int) := by omega
      cases hc : dig s[k]
      · have HN : Hid (R = false) := Lib.hid (by rw [← HT.out, dig_not s k hlt hc, Bool.and_false])
        simp only [dig, decide_eq_false_iff_not] at hc
        by_cases h65 : (s[k].toNat : Int) < 48
        · have hd1 : decide ((s[k].toNat : Int) < 48) = true := by simpa using h65
          clear hc
          go_wp2_with fail
          go_ret
          exact ⟨by rw [HN.out]; rfl, rfl⟩
        · have h90 : (57 : Int) < (s[k].toNat : Int) := by omega
          have hd1 : decide ((s[k].toNat : Int) < 48) = false := by simpa using h65
          have hd2 : decide ((57 : Int) < (s[k].toNat : Int)) = true := by simpa using h90
          clear hc
          go_wp2_with fail
          go_ret
          exact ⟨by rw [HN.out]; rfl, rfl⟩
      · have HD := Lib.hid hc
        simp only [dig, decide_eq_true_eq] at hc
        obtain ⟨c0, c1⟩ := hc
        have hd1 : decide ((s[k].toNat : Int) < 48) = false := by simp; omega
        have hd2 : decide ((57 : Int) < (s[k].toNat : Int)) = false := by simp; omega
        go_wp2_with fail
        go_round
        case rel => exact ⟨k + 1, by omega, by go_num, allDig_next s k hlt HA.out HD.out⟩
        case measure => simp [RowKit.intOf]; omega
    · have he : k = s.size := by omega
      subst he
      have hall := HA.out
      rw [List.take_of_length_le (by rw [size_list]; omega)] at hall
      have HN := Lib.hid hall
      clear hall
      rcases HF.out with ⟨h1, h2⟩ | ⟨h1, h2⟩ | ⟨h0, h1, ⟨g1, g2⟩, h3⟩ | ⟨h0, h1, ⟨g1, g2⟩, h2⟩
      · have HR : Hid (R = false) := Lib.hid (by rw [← HT.out, h2]; rfl)
        subst h1
        clear h2 HF HT
        go_wp2_with fail
        go_ret
        exact ⟨by rw [HR.out]; rfl, rfl⟩
      · have HR : Hid (R = true) := Lib.hid (by rw [← HT.out, h2]; rfl)
        subst h1
        clear h2 HF HT
        go_wp2_with fail
        go_ret
        exact ⟨by rw [HR.out]; rfl, rfl⟩
      · have HR : Hid (R = false) := Lib.hid (by rw [← HT.out, h3]; rfl)
        have h4 : (s[0].toNat : Int) = 48 := by rw [h1]; rfl
        have g3 : (s.toList == [48]) = false := by rw [beq_eq_false_iff_ne]; exact g2
        clear h3 HF HT h1
        go_wp2_with fail
        go_ret
        exact ⟨by rw [HR.out]; rfl, rfl⟩
      · have HR : Hid (R = true) := Lib.hid (by rw [← HT.out, h2, HN.out]; rfl)
        have h4 : ¬ (s[0].toNat : Int) = 48 := by
          intro e; exact h1 (UInt8.toNat_inj.1 (by have : (48 : UInt8).toNat = 48 := rfl; omega))
        have g3 : (s.toList == [48]) = false := by rw [beq_eq_false_iff_ne]; exact g2
        have h5 : ((s[0].toNat : Int) != 48) = true := by rw [bne_iff_ne]; exact h4
        clear h2 HF HT h1
        go_wp2_with fail
        go_ret
        exact ⟨by rw [HR.out]; rfl, rfl⟩
end Go.Proofs.YtlgplhekiemeoaaDoor
