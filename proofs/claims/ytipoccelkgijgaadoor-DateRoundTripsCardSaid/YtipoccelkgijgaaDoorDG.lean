/-
  Contracts of shaped, number and Parse, the program's and the document's own.
-/
import Derived.Test.YtipoccelkgijgaaDoorDF
namespace Go.Proofs.YtipoccelkgijgaaDoor
open Go Go.RowKit Go.Lib WM

def okAt (i : Nat) (c : UInt8) : Bool := if i = 4 ∨ i = 7 then c == 45 else dig c
def shK (l : List UInt8) (k : Nat) : Bool := (List.range k).all fun i => okAt i (l.getD i 0)
def shB (l : List UInt8) : Bool := decide (l.length = 10) && shK l 10
theorem shK_succ (l : List UInt8) (k : Nat) : shK l (k + 1) = (shK l k && okAt k (l.getD k 0)) := by
  unfold shK; rw [List.range_succ, List.all_append]; simp
theorem shK_stop (l : List UInt8) (k n : Nat) (hk : k < n) (h : okAt k (l.getD k 0) = false) : shK l n = false := by
  cases c : shK l n
  · rfl
  · unfold shK at c
    rw [List.all_eq_true] at c
    have := c k (List.mem_range.2 hk)
    rw [h] at this; cases this
theorem getD_size (s : ByteArray) (k : Nat) (h : k < s.size) : s.data.toList.getD k 0 = s[k] := by
  have e : s[k] = s.data.toList[k]'(by rw [size_list]; exact h) := rfl
  rw [e, List.getD_eq_getElem?_getD, List.getElem?_eq_getElem (by rw [size_list]; exact h)]; rfl
theorem shK_dig (l : List UInt8) (h : shB l = true) : allDig (l.take 4) = true ∧ allDig ((l.take 7).drop 5) = true ∧ allDig (l.drop 8) = true ∧ l.length = 10 := by
  unfold shB at h
  rw [Bool.and_eq_true, decide_eq_true_eq] at h
  obtain ⟨hl, hk⟩ := h
  unfold shK at hk
  rw [List.all_eq_true] at hk
  have g : ∀ i, i < 10 → okAt i (l.getD i 0) = true := fun i hi => hk i (List.mem_range.2 hi)
  match l, hl with
  | [a, b, c, d, e, f, g', h', i, j], _ =>
    have g0 := g 0 (by omega); have g1 := g 1 (by omega); have g2 := g 2 (by omega); have g3 := g 3 (by omega)
    have g5 := g 5 (by omega); have g6 := g 6 (by omega); have g8 := g 8 (by omega); have g9 := g 9 (by omega)
    simp [okAt] at g0 g1 g2 g3 g5 g6 g8 g9
    simp [allDig, g0, g1, g2, g3, g5, g6, g8, g9]
def psE (l : List UInt8) : Int := if shB l = true then dayE (dval (l.take 4)) (dval ((l.take 7).drop 5)) (dval (l.drop 8)) else 2
def psV (l : List UInt8) : Int := if shB l = true then dayV (dval (l.take 4)) (dval ((l.take 7).drop 5)) (dval (l.drop 8)) else 0

set_option maxRecDepth 100000 in
set_option maxHeartbeats 1000000 in
theorem mnumber (s : ByteArray) (hs : s.size ≤ 4) (ha : allDig s.data.toList = true) (w : World) :
    Calls Tryd.prog 36 #[.string s] w fun e w' => e = .returned (.int .i64 (dval s.data.toList : Nat)) ∧ w = w' := by
  have HALL := Lib.hid ha
  clear ha
  go_enter Tryd.func36, Tryd.ntmps36
  go_wp2
  go_loop [3, 7] (fun x i => ∃ k : Nat, k ≤ s.size ∧ i = .int .i64 k ∧ x = .int .i64 (dval (s.data.toList.take k) : Nat)) (fun _ i => s.size - (RowKit.intOf i).toNat)
  case atStart => exact ⟨0, by omega, rfl, rfl⟩
  case round =>
    obtain ⟨k, hk, rfl, rfl⟩ := hrel
    have b1 : dval (s.data.toList.take k) ≤ 9999 := by
      have h1 := dval_lt (s.data.toList.take k) (allDig_take _ _ HALL.out)
      have h2 : (s.data.toList.take k).length ≤ 4 := by rw [List.length_take, size_list]; omega
      have h3 : 10 ^ (s.data.toList.take k).length ≤ 10 ^ 4 := Nat.pow_le_pow_right (by decide) h2
      omega
    obtain ⟨X, hX⟩ : ∃ X, dval (s.data.toList.take k) = X := ⟨_, rfl⟩
    rw [hX] at b1
    simp only [hX]
    have HX := Lib.hid hX
    clear hX
    by_cases hlt : k < s.size
    · have hkz : (k : Int) < (s.size : Int) := by omega
      have hd : dig s[k] = true := by
        have h := HALL.out
        unfold allDig at h
        rw [List.all_eq_true] at h
        refine h _ ?_
        have : s[k] = s.data.toList[k]'(by rw [size_list]; exact hlt) := rfl
        rw [this]; exact List.getElem_mem _
      simp only [dig, decide_eq_true_eq] at hd
      obtain ⟨d, hdd⟩ : ∃ d : Nat, (s[k].toNat : Int) - 48 = (d : Int) := ⟨s[k].toNat - 48, by omega⟩
      have hd9 : (d : Int) ≤ 9 := by omega
      have hw8 : IntKind.u8.wrap ((s[k].toNat : Int) - 48) = (d : Int) := by rw [IntKind.wrap_u8]; omega
      have hw64 : IntKind.i64.wrap (d : Int) = (d : Int) := by rw [IntKind.wrap_i64]; omega
      have hwx : wrap64 ((X : Int) * 10) = (X : Int) * 10 := by unfold wrap64; omega
      have hwy : wrap64 ((X : Int) * 10 + d) = (X : Int) * 10 + d := by unfold wrap64; omega
      have hstep : dval (s.data.toList.take (k + 1)) = X * 10 + d := by
        rw [WM.take_snoc s k hlt, dval_snoc, HX.out]; omega
      have HS := Lib.hid hstep
      clear hstep hdd hd
      go_wp2
      go_round
      case rel => exact ⟨k + 1, by omega, by go_num, by rw [HS.out]; first | rfl | go_num⟩
      case measure => simp [RowKit.intOf]; omega
    · have he : k = s.size := by omega
      subst he
      have hv := HX.out
      rw [List.take_of_length_le (by rw [size_list]; omega)] at hv
      have HN := Lib.hid hv
      clear hv
      go_wp2
      go_ret
      exact ⟨by rw [HN.out]; rfl, rfl⟩

set_option maxRecDepth 100000 in
set_option maxHeartbeats 1000000 in
theorem rnumber (s : ByteArray) (hs : s.size ≤ 4) (ha : allDig s.data.toList = true) (w : World) :
    Calls Tryd.prog 38 #[.string s] w fun e w' => e = .returned (.int .i64 (dval s.data.toList : Nat)) ∧ w = w' := by
  have HALL := Lib.hid ha
  clear ha
  go_enter Tryd.func38, Tryd.ntmps38
  go_wp2
  go_loop [3, 4] (fun x i => ∃ k : Nat, k ≤ s.size ∧ i = .int .i64 k ∧ x = .int .i64 (dval (s.data.toList.take k) : Nat)) (fun _ i => s.size - (RowKit.intOf i).toNat)
  case atStart => exact ⟨0, by omega, rfl, rfl⟩
  case round =>
    obtain ⟨k, hk, rfl, rfl⟩ := hrel
    have b1 : dval (s.data.toList.take k) ≤ 9999 := by
      have h1 := dval_lt (s.data.toList.take k) (allDig_take _ _ HALL.out)
      have h2 : (s.data.toList.take k).length ≤ 4 := by rw [List.length_take, size_list]; omega
      have h3 : 10 ^ (s.data.toList.take k).length ≤ 10 ^ 4 := Nat.pow_le_pow_right (by decide) h2
      omega
    obtain ⟨X, hX⟩ : ∃ X, dval (s.data.toList.take k) = X := ⟨_, rfl⟩
    rw [hX] at b1
    simp only [hX]
    have HX := Lib.hid hX
    clear hX
    by_cases hlt : k < s.size
    · have hkz : (k : Int) < (s.size : Int) := by omega
      have hd : dig s[k] = true := by
        have h := HALL.out
        unfold allDig at h
        rw [List.all_eq_true] at h
        refine h _ ?_
        have : s[k] = s.data.toList[k]'(by rw [size_list]; exact hlt) := rfl
        rw [this]; exact List.getElem_mem _
      simp only [dig, decide_eq_true_eq] at hd
      obtain ⟨d, hdd⟩ : ∃ d : Nat, (s[k].toNat : Int) - 48 = (d : Int) := ⟨s[k].toNat - 48, by omega⟩
      have hd9 : (d : Int) ≤ 9 := by omega
      have hw8 : IntKind.u8.wrap ((s[k].toNat : Int) - 48) = (d : Int) := by rw [IntKind.wrap_u8]; omega
      have hw64 : IntKind.i64.wrap (d : Int) = (d : Int) := by rw [IntKind.wrap_i64]; omega
      have hwx : wrap64 ((X : Int) * 10) = (X : Int) * 10 := by unfold wrap64; omega
      have hwy : wrap64 ((X : Int) * 10 + d) = (X : Int) * 10 + d := by unfold wrap64; omega
      have hstep : dval (s.data.toList.take (k + 1)) = X * 10 + d := by
        rw [WM.take_snoc s k hlt, dval_snoc, HX.out]; omega
      have HS := Lib.hid hstep
      clear hstep hdd hd
      go_wp2
      go_round
      case rel => exact ⟨k + 1, by omega, by go_num, by rw [HS.out]; first | rfl | go_num⟩
      case measure => simp [RowKit.intOf]; omega
    · have he : k = s.size := by omega
      subst he
      have hv := HX.out
      rw [List.take_of_length_le (by rw [size_list]; omega)] at hv
      have HN := Lib.hid hv
      clear hv
      go_wp2
      go_ret
      exact ⟨by rw [HN.out]; rfl, rfl⟩

set_option maxRecDepth 100000 in
set_option maxHeartbeats 2000000 in
theorem mshaped (s : ByteArray) (_ : s.size ≤ 9223372036854775807) (w : World) :
    Calls Tryd.prog 35 #[.string s] w fun e w' => e = .returned (.bool (shB s.data.toList)) ∧ w = w' := by
  by_cases h10 : s.size = 10
  · have HB : Hid (shB s.data.toList = shK s.data.toList 10) := Lib.hid (by unfold shB; rw [size_list, decide_eq_true h10]; rfl)
    have h10z : (s.size : Int) = 10 := by omega
    have H10 := Lib.hid h10
    clear h10
    go_enter Tryd.func35, Tryd.ntmps35
    go_wp2_with fail
    go_loop [9] (fun i => ∃ k : Nat, k ≤ 10 ∧ i = .int .i64 k ∧ shK s.data.toList k = true) (fun i => 10 - (RowKit.intOf i).toNat)
    case atStart => exact ⟨0, by omega, rfl, rfl⟩
    case round =>
      obtain ⟨k, hk, rfl, hall⟩ := hrel
      have HA := Lib.hid hall
      clear hall
      by_cases hlt : k < 10
      · have hks : k < s.size := by have := H10.out; omega
        have hkz : (k : Int) < 10 := by omega
        have HG := Lib.hid (getD_size s k hks)
        by_cases hd : k = 4 ∨ k = 7
        · by_cases c45 : s[k] = 45
          · have HT : Hid (okAt k (s.data.toList.getD k 0) = true) := Lib.hid (by rw [HG.out]; unfold okAt; rw [if_pos hd, c45]; rfl)
            have hv : (s[k].toNat : Int) = 45 := by rw [c45]; rfl
            have hvb : ((s[k].toNat : Int) != 45) = false := by rw [hv]; rfl
            clear c45
            rcases hd with rfl | rfl
            all_goals
              go_wp2_with fail
              go_round
              case rel => exact ⟨_, by decide, rfl, by rw [shK_succ, HA.out, HT.out]; rfl⟩
              case measure => simp [RowKit.intOf]
          · have HT : Hid (shK s.data.toList 10 = false) := Lib.hid (shK_stop _ k 10 hlt (by rw [HG.out]; unfold okAt; rw [if_pos hd, beq_eq_false_iff_ne]; exact c45))
            have hv : ¬ (s[k].toNat : Int) = 45 := by
              intro h; apply c45
              apply UInt8.toNat_inj.1
              rw [show (45 : UInt8).toNat = 45 from rfl]; omega
            have hvb : ((s[k].toNat : Int) != 45) = true := by rw [bne_iff_ne]; exact hv
            clear c45
            rcases hd with rfl | rfl
            all_goals
              go_wp2_with fail
              go_ret
              exact ⟨by rw [HB.out, HT.out]; rfl, rfl⟩
        · have n4 : ¬ (k : Int) = 4 := by omega
          have n7 : ¬ (k : Int) = 7 := by omega
          have b4 : ((k : Int) == 4) = false := by rw [beq_eq_false_iff_ne]; exact n4
          have b7 : ((k : Int) == 7) = false := by rw [beq_eq_false_iff_ne]; exact n7
          cases hc : dig s[k]
          · have HT : Hid (shK s.data.toList 10 = false) := Lib.hid (shK_stop _ k 10 hlt (by rw [HG.out]; unfold okAt; rw [if_neg hd]; exact hc))
            simp only [dig, decide_eq_false_iff_not] at hc
            clear hd
            by_cases h65 : (s[k].toNat : Int) < 48
            · have hd1 : decide ((s[k].toNat : Int) < 48) = true := by simpa using h65
              clear hc
              go_wp2_with fail
              go_ret
              exact ⟨by rw [HB.out, HT.out]; rfl, rfl⟩
            · have h90 : (57 : Int) < (s[k].toNat : Int) := by omega
              have hd1 : decide ((s[k].toNat : Int) < 48) = false := by simpa using h65
              have hd2 : decide ((57 : Int) < (s[k].toNat : Int)) = true := by simpa using h90
              clear hc
              go_wp2_with fail
              go_ret
              exact ⟨by rw [HB.out, HT.out]; rfl, rfl⟩
          · have HT : Hid (okAt k (s.data.toList.getD k 0) = true) := Lib.hid (by rw [HG.out]; unfold okAt; rw [if_neg hd]; exact hc)
            simp only [dig, decide_eq_true_eq] at hc
            obtain ⟨c0, c1⟩ := hc
            have hd1 : decide ((s[k].toNat : Int) < 48) = false := by simp; omega
            have hd2 : decide ((57 : Int) < (s[k].toNat : Int)) = false := by simp; omega
            clear hd
            go_wp2_with fail
            go_round
            case rel => exact ⟨k + 1, by omega, by go_num, by rw [shK_succ, HA.out, HT.out]; rfl⟩
            case measure => simp [RowKit.intOf]; omega
      · have he : k = 10 := by omega
        subst he
        go_wp2_with fail
        go_ret
        exact ⟨by rw [HB.out, HA.out]; rfl, rfl⟩
  · have HB : Hid (shB s.data.toList = false) := Lib.hid (by unfold shB; rw [size_list, decide_eq_false h10]; rfl)
    have h10z : ¬ (s.size : Int) = 10 := by omega
    clear h10
    go_enter Tryd.func35, Tryd.ntmps35
    go_wp2_with fail
    go_ret
    exact ⟨by rw [HB.out]; rfl, rfl⟩

set_option maxRecDepth 100000 in
set_option maxHeartbeats 2000000 in
theorem rshaped (s : ByteArray) (_ : s.size ≤ 9223372036854775807) (w : World) :
    Calls Tryd.prog 37 #[.string s] w fun e w' => e = .returned (.bool (shB s.data.toList)) ∧ w = w' := by
  by_cases h10 : s.size = 10
  · have HB : Hid (shB s.data.toList = shK s.data.toList 10) := Lib.hid (by unfold shB; rw [size_list, decide_eq_true h10]; rfl)
    have h10z : (s.size : Int) = 10 := by omega
    have H10 := Lib.hid h10
    clear h10
    go_enter Tryd.func37, Tryd.ntmps37
    go_wp2_with fail
    go_loop [3] (fun i => ∃ k : Nat, k ≤ 10 ∧ i = .int .i64 k ∧ shK s.data.toList k = true) (fun i => 10 - (RowKit.intOf i).toNat)
    case atStart => exact ⟨0, by omega, rfl, rfl⟩
    case round =>
      obtain ⟨k, hk, rfl, hall⟩ := hrel
      have HA := Lib.hid hall
      clear hall
      by_cases hlt : k < 10
      · have hks : k < s.size := by have := H10.out; omega
        have hkz : (k : Int) < 10 := by omega
        have HG := Lib.hid (getD_size s k hks)
        by_cases hd : k = 4 ∨ k = 7
        · by_cases c45 : s[k] = 45
          · have HT : Hid (okAt k (s.data.toList.getD k 0) = true) := Lib.hid (by rw [HG.out]; unfold okAt; rw [if_pos hd, c45]; rfl)
            have hv : (s[k].toNat : Int) = 45 := by rw [c45]; rfl
            have hvb : ((s[k].toNat : Int) != 45) = false := by rw [hv]; rfl
            clear c45
            rcases hd with rfl | rfl
            all_goals
              go_wp2_with fail
              go_round
              case rel => exact ⟨_, by decide, rfl, by rw [shK_succ, HA.out, HT.out]; rfl⟩
              case measure => simp [RowKit.intOf]
          · have HT : Hid (shK s.data.toList 10 = false) := Lib.hid (shK_stop _ k 10 hlt (by rw [HG.out]; unfold okAt; rw [if_pos hd, beq_eq_false_iff_ne]; exact c45))
            have hv : ¬ (s[k].toNat : Int) = 45 := by
              intro h; apply c45
              apply UInt8.toNat_inj.1
              rw [show (45 : UInt8).toNat = 45 from rfl]; omega
            have hvb : ((s[k].toNat : Int) != 45) = true := by rw [bne_iff_ne]; exact hv
            clear c45
            rcases hd with rfl | rfl
            all_goals
              go_wp2_with fail
              go_ret
              exact ⟨by rw [HB.out, HT.out]; rfl, rfl⟩
        · have n4 : ¬ (k : Int) = 4 := by omega
          have n7 : ¬ (k : Int) = 7 := by omega
          have b4 : ((k : Int) == 4) = false := by rw [beq_eq_false_iff_ne]; exact n4
          have b7 : ((k : Int) == 7) = false := by rw [beq_eq_false_iff_ne]; exact n7
          cases hc : dig s[k]
          · have HT : Hid (shK s.data.toList 10 = false) := Lib.hid (shK_stop _ k 10 hlt (by rw [HG.out]; unfold okAt; rw [if_neg hd]; exact hc))
            simp only [dig, decide_eq_false_iff_not] at hc
            clear hd
            by_cases h65 : (s[k].toNat : Int) < 48
            · have hd1 : decide ((s[k].toNat : Int) < 48) = true := by simpa using h65
              clear hc
              go_wp2_with fail
              go_ret
              exact ⟨by rw [HB.out, HT.out]; rfl, rfl⟩
            · have h90 : (57 : Int) < (s[k].toNat : Int) := by omega
              have hd1 : decide ((s[k].toNat : Int) < 48) = false := by simpa using h65
              have hd2 : decide ((57 : Int) < (s[k].toNat : Int)) = true := by simpa using h90
              clear hc
              go_wp2_with fail
              go_ret
              exact ⟨by rw [HB.out, HT.out]; rfl, rfl⟩
          · have HT : Hid (okAt k (s.data.toList.getD k 0) = true) := Lib.hid (by rw [HG.out]; unfold okAt; rw [if_neg hd]; exact hc)
            simp only [dig, decide_eq_true_eq] at hc
            obtain ⟨c0, c1⟩ := hc
            have hd1 : decide ((s[k].toNat : Int) < 48) = false := by simp; omega
            have hd2 : decide ((57 : Int) < (s[k].toNat : Int)) = false := by simp; omega
            clear hd
            go_wp2_with fail
            go_round
            case rel => exact ⟨k + 1, by omega, by go_num, by rw [shK_succ, HA.out, HT.out]; rfl⟩
            case measure => simp [RowKit.intOf]; omega
      · have he : k = 10 := by omega
        subst he
        go_wp2_with fail
        go_ret
        exact ⟨by rw [HB.out, HA.out]; rfl, rfl⟩
  · have HB : Hid (shB s.data.toList = false) := Lib.hid (by unfold shB; rw [size_list, decide_eq_false h10]; rfl)
    have h10z : ¬ (s.size : Int) = 10 := by omega
    clear h10
    go_enter Tryd.func37, Tryd.ntmps37
    go_wp2_with fail
    go_ret
    exact ⟨by rw [HB.out]; rfl, rfl⟩

set_option maxRecDepth 100000 in
set_option maxHeartbeats 2000000 in
theorem mparse (s : ByteArray) (hs : s.size ≤ 9223372036854775807) (w : World) (hL : Ln w) :
    Calls Tryd.prog 26 #[.string s] w fun e w' => e = .returned (.tuple #[.int .i64 (psV s.data.toList), .int .i64 (psE s.data.toList)]) ∧ ∃ n, w' = w.drewN n := by
  have V := fun W => mshaped s hs W
  cases h : shB s.data.toList
  · have HR : Hid (psV s.data.toList = 0 ∧ psE s.data.toList = 2) := Lib.hid (by unfold psV psE; rw [h]; exact ⟨rfl, rfl⟩)
    simp only [h] at V
    have V := Lib.hid V
    clear h
    go_enter Tryd.func26, Tryd.ntmps26
    go_wp2_with fail
    refine (V.out _).mono ?_
    rintro e w1 ⟨rfl, rfl⟩
    go_wp2_with fail
    go_ret2
    exact ⟨by rw [HR.out.1, HR.out.2]; rfl, 0, rfl⟩
  · obtain ⟨a1, a2, a3, hl⟩ := shK_dig _ h
    have h10 : s.size = 10 := by rw [← size_list]; exact hl
    have HR : psV s.data.toList = dayV (dval (s.data.toList.take 4)) (dval ((s.data.toList.take 7).drop 5)) (dval (s.data.toList.drop 8)) ∧ psE s.data.toList = dayE (dval (s.data.toList.take 4)) (dval ((s.data.toList.take 7).drop 5)) (dval (s.data.toList.drop 8)) := by unfold psV psE; rw [h]; exact ⟨rfl, rfl⟩
    simp only [h] at V
    have V := Lib.hid V
    have e1 : (s.extract 0 4).data.toList = s.data.toList.take 4 := by rw [str_cut, str_list, List.drop_zero]
    have e2 : (s.extract 5 7).data.toList = (s.data.toList.take 7).drop 5 := by rw [str_cut, str_list]
    have e3 : (s.extract 8 s.size).data.toList = s.data.toList.drop 8 := by rw [str_cut, str_list, List.take_of_length_le (by rw [size_list]; omega)]
    have N1 := fun W => mnumber (s.extract 0 4) (by rw [ByteArray.size_extract]; omega) (by rw [e1]; exact a1) W
    have N2 := fun W => mnumber (s.extract 5 7) (by rw [ByteArray.size_extract]; omega) (by rw [e2]; exact a2) W
    have N3 := fun W => mnumber (s.extract 8 s.size) (by rw [ByteArray.size_extract]; omega) (by rw [e3]; exact a3) W
    rw [e1] at N1; rw [e2] at N2; rw [e3] at N3
    obtain ⟨X, hX⟩ : ∃ X : Int, (dval (s.data.toList.take 4) : Int) = X := ⟨_, rfl⟩
    obtain ⟨Y, hY⟩ : ∃ X : Int, (dval ((s.data.toList.take 7).drop 5) : Int) = X := ⟨_, rfl⟩
    obtain ⟨Z, hZ⟩ : ∃ X : Int, (dval (s.data.toList.drop 8) : Int) = X := ⟨_, rfl⟩
    rw [hX] at N1 HR; rw [hY] at N2 HR; rw [hZ] at N3 HR
    have DD := fun W (hT : Ln W) => mday X Y Z W hT
    obtain ⟨RV, hRV⟩ : ∃ R, dayV X Y Z = R := ⟨_, rfl⟩
    obtain ⟨RE, hRE⟩ : ∃ R, dayE X Y Z = R := ⟨_, rfl⟩
    rw [hRV, hRE] at HR
    simp only [hRV, hRE] at DD
    have DD := Lib.hid DD; have N1 := Lib.hid N1; have N2 := Lib.hid N2; have N3 := Lib.hid N3; have HR := Lib.hid HR
    have hz : (s.size : Int) = 10 := by omega
    have hsz1 : 4 ≤ s.size := by omega
    have hsz2 : 7 ≤ s.size := by omega
    have hsz3 : 8 ≤ s.size := by omega
    clear e1 e2 e3 a1 a2 a3 hl h hX hY hZ hRV hRE h10
    go_enter Tryd.func26, Tryd.ntmps26
    go_wp2_with fail
    refine (V.out _).mono ?_
    rintro e w1 ⟨rfl, rfl⟩
    go_wp2_with fail
    go_quiet (first | (go_at_call 36; with_reducible exact quiet_left (N1.out _)) | (go_at_call 36; with_reducible exact quiet_left (N2.out _)) | (go_at_call 36; with_reducible exact quiet_left (N3.out _)) | (go_at_call 22; exact quiet_left (DD.out _ (hL.drewN _))))
    go_wp2_with fail
    go_ret2
    exact ⟨by rw [HR.out.1, HR.out.2]; rfl, _, rfl⟩

set_option maxRecDepth 100000 in
set_option maxHeartbeats 2000000 in
theorem rparse (s : ByteArray) (hs : s.size ≤ 9223372036854775807) (w : World) :
    Calls Tryd.prog 27 #[.string s] w fun e w' => e = .returned (.tuple #[.int .i64 (psV s.data.toList), .int .i64 (psE s.data.toList)]) ∧ ∃ n, w' = w.drewN n := by
  have V := fun W => rshaped s hs W
  cases h : shB s.data.toList
  · have HR : Hid (psV s.data.toList = 0 ∧ psE s.data.toList = 2) := Lib.hid (by unfold psV psE; rw [h]; exact ⟨rfl, rfl⟩)
    simp only [h] at V
    have V := Lib.hid V
    clear h
    go_enter Tryd.func27, Tryd.ntmps27
    go_wp2_with fail
    refine (V.out _).mono ?_
    rintro e w1 ⟨rfl, rfl⟩
    go_wp2_with fail
    go_ret2
    exact ⟨by rw [HR.out.1, HR.out.2]; rfl, 0, rfl⟩
  · obtain ⟨a1, a2, a3, hl⟩ := shK_dig _ h
    have h10 : s.size = 10 := by rw [← size_list]; exact hl
    have HR : psV s.data.toList = dayV (dval (s.data.toList.take 4)) (dval ((s.data.toList.take 7).drop 5)) (dval (s.data.toList.drop 8)) ∧ psE s.data.toList = dayE (dval (s.data.toList.take 4)) (dval ((s.data.toList.take 7).drop 5)) (dval (s.data.toList.drop 8)) := by unfold psV psE; rw [h]; exact ⟨rfl, rfl⟩
    simp only [h] at V
    have V := Lib.hid V
    have e1 : (s.extract 0 4).data.toList = s.data.toList.take 4 := by rw [str_cut, str_list, List.drop_zero]
    have e2 : (s.extract 5 7).data.toList = (s.data.toList.take 7).drop 5 := by rw [str_cut, str_list]
    have e3 : (s.extract 8 s.size).data.toList = s.data.toList.drop 8 := by rw [str_cut, str_list, List.take_of_length_le (by rw [size_list]; omega)]
    have N1 := fun W => rnumber (s.extract 0 4) (by rw [ByteArray.size_extract]; omega) (by rw [e1]; exact a1) W
    have N2 := fun W => rnumber (s.extract 5 7) (by rw [ByteArray.size_extract]; omega) (by rw [e2]; exact a2) W
    have N3 := fun W => rnumber (s.extract 8 s.size) (by rw [ByteArray.size_extract]; omega) (by rw [e3]; exact a3) W
    rw [e1] at N1; rw [e2] at N2; rw [e3] at N3
    obtain ⟨X, hX⟩ : ∃ X : Int, (dval (s.data.toList.take 4) : Int) = X := ⟨_, rfl⟩
    obtain ⟨Y, hY⟩ : ∃ X : Int, (dval ((s.data.toList.take 7).drop 5) : Int) = X := ⟨_, rfl⟩
    obtain ⟨Z, hZ⟩ : ∃ X : Int, (dval (s.data.toList.drop 8) : Int) = X := ⟨_, rfl⟩
    rw [hX] at N1 HR; rw [hY] at N2 HR; rw [hZ] at N3 HR
    have DD := fun W => rday X Y Z W
    obtain ⟨RV, hRV⟩ : ∃ R, dayV X Y Z = R := ⟨_, rfl⟩
    obtain ⟨RE, hRE⟩ : ∃ R, dayE X Y Z = R := ⟨_, rfl⟩
    rw [hRV, hRE] at HR
    simp only [hRV, hRE] at DD
    have DD := Lib.hid DD; have N1 := Lib.hid N1; have N2 := Lib.hid N2; have N3 := Lib.hid N3; have HR := Lib.hid HR
    have hz : (s.size : Int) = 10 := by omega
    have hsz1 : 4 ≤ s.size := by omega
    have hsz2 : 7 ≤ s.size := by omega
    have hsz3 : 8 ≤ s.size := by omega
    clear e1 e2 e3 a1 a2 a3 hl h hX hY hZ hRV hRE h10
    go_enter Tryd.func27, Tryd.ntmps27
    go_wp2_with fail
    refine (V.out _).mono ?_
    rintro e w1 ⟨rfl, rfl⟩
    go_wp2_with fail
    go_quiet (first | (go_at_call 38; with_reducible exact quiet_left (N1.out _)) | (go_at_call 38; with_reducible exact quiet_left (N2.out _)) | (go_at_call 38; with_reducible exact quiet_left (N3.out _)) | (go_at_call 23; exact quiet_left (DD.out _)))
    go_wp2_with fail
    go_ret2
    exact ⟨by rw [HR.out.1, HR.out.2]; rfl, _, rfl⟩

end Go.Proofs.YtipoccelkgijgaaDoor
