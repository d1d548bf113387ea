/-
  Contracts of what package money's Parse calls: cut, shortest, decimal, capped.
-/
import Derived.Test.YtkijbckpfcfcpabDoorMCode
import Derived.Laws.Slices
import Derived.Laws.Strings3
import Derived.BigQuiet
namespace Go.Proofs.YtkijbckpfcfcpabDoor
open Go Go.RowKit Go.Lib WM

theorem bdn {w w' : World} (h : Below w.heap.size w w') (n : Nat) : Below w.heap.size w (w'.drewN n) := ⟨h.os, h.tape, h.output, h.size, h.block⟩
def str (l : List UInt8) : ByteArray := ⟨l.toArray⟩
theorem str_size (l : List UInt8) : (str l).size = l.length := by simp [str, ByteArray.size]
theorem str_list (l : List UInt8) : (str l).data.toList = l := by simp [str]
theorem str_app (a b : List UInt8) : str a ++ str b = str (a ++ b) := by
  apply ByteArray.ext
  simp [str]
theorem list_str (s : ByteArray) : str s.data.toList = s := by
  apply ByteArray.ext
  simp [str]
theorem str_cut (s : ByteArray) (a b : Nat) : s.extract a b = str ((s.data.toList.take b).drop a) := by
  apply ByteArray.ext
  apply Array.toList_inj.1
  simp [str, ByteArray.data_extract, List.drop_take]

set_option maxRecDepth 100000 in
set_option maxHeartbeats 1000000 in
theorem mdecimal (s : ByteArray) (hs : s.size ≤ 9223372036854775807) (w : World) :
    Calls Tryd.prog 35 #[.string s] w fun e w' => e = .returned (.bool (allDig s.data.toList)) ∧ w = w' := by
  go_enter Tryd.func35, Tryd.ntmps35
  go_wp2
  go_loop [6] (fun i => ∃ k : Nat, k ≤ s.size ∧ i = .int .i64 k ∧ allDig (s.data.toList.take k) = true) (fun i => s.size - (RowKit.intOf i).toNat)
  case atStart => exact ⟨0, by omega, rfl, rfl⟩
  case round =>
    obtain ⟨k, hk, rfl, hall⟩ := hrel
    have HA := Lib.hid hall
    clear hall
    by_cases hlt : k < s.size
    · have hkz : (k : Int) < (s.size : Int) := by omega
      cases hc : dig s[k]
      · have HN : Hid (allDig s.data.toList = false) := Lib.hid (by
          cases h' : allDig s.data.toList
          · rfl
          · unfold allDig at h'
            rw [List.all_eq_true] at h'
            have h2 : s[k] ∈ s.data.toList := by
              have : s[k] = s.data.toList[k]'(by rw [size_list]; exact hlt) := rfl
              rw [this]; exact List.getElem_mem _
            rw [h' _ h2] at hc; cases hc)
        simp only [dig, decide_eq_false_iff_not] at hc
        by_cases h65 : (s[k].toNat : Int) < 48
        · have hd1 : decide ((s[k].toNat : Int) < 48) = true := by simpa using h65
          clear hc
          go_wp2
          go_ret
          exact ⟨by rw [HN.out]; rfl, rfl⟩
        · have h90 : (57 : Int) < (s[k].toNat : Int) := by omega
          have hd1 : decide ((s[k].toNat : Int) < 48) = false := by simpa using h65
          have hd2 : decide ((57 : Int) < (s[k].toNat : Int)) = true := by simpa using h90
          clear hc
          go_wp2
          go_ret
          exact ⟨by rw [HN.out]; rfl, rfl⟩
      · have HT := Lib.hid hc
        simp only [dig, decide_eq_true_eq] at hc
        obtain ⟨c0, c1⟩ := hc
        have hd1 : decide ((s[k].toNat : Int) < 48) = false := by simp; omega
        have hd2 : decide ((57 : Int) < (s[k].toNat : Int)) = false := by simp; omega
        go_wp2
        go_round
        case rel => exact ⟨k + 1, by omega, by go_num, by rw [WM.take_snoc s k hlt, allDig_snoc, HA.out, HT.out]; rfl⟩
        case measure => simp [RowKit.intOf]; omega
    · have he : k = s.size := by omega
      subst he
      have hall := HA.out
      rw [List.take_of_length_le (by rw [size_list]; omega)] at hall
      have HN := Lib.hid hall
      clear hall
      go_wp2
      go_ret
      exact ⟨by rw [HN.out]; rfl, rfl⟩

def capN (n : Nat) : Int := if (n : Int) ≤ 1000000000001 then n else 1000000000001
theorem capN_bd (n : Nat) : 0 ≤ capN n ∧ capN n ≤ 1000000000001 := by unfold capN; split <;> omega
theorem capN_step (n d : Nat) : (capN n * 10 + d ≤ 1000000000001 → capN (n * 10 + d) = capN n * 10 + d) ∧ (¬ capN n * 10 + d ≤ 1000000000001 → capN (n * 10 + d) = 1000000000001) := by
  unfold capN
  refine ⟨fun h => ?_, fun h => ?_⟩ <;> split at h <;> split <;> omega

set_option maxRecDepth 100000 in
set_option maxHeartbeats 1000000 in
theorem mcapped (n : Nat) (s : ByteArray) (hs : s.size ≤ 9223372036854775807) (ha : allDig s.data.toList = true) (w : World) :
    Calls Tryd.prog 36 #[.int .i64 (capN n), .string s] w fun e w' => e = .returned (.int .i64 (capN (dvalA n s.data.toList))) ∧ w = w' := by
  have HALL := Lib.hid ha
  clear ha
  go_enter Tryd.func36, Tryd.ntmps36
  go_wp2
  go_loop [0, 8] (fun x i => ∃ k : Nat, k ≤ s.size ∧ i = .int .i64 k ∧ x = .int .i64 (capN (dvalA n (s.data.toList.take k)))) (fun _ i => s.size - (RowKit.intOf i).toNat)
  case atStart => exact ⟨0, by omega, rfl, rfl⟩
  case round =>
    obtain ⟨k, hk, rfl, rfl⟩ := hrel
    obtain ⟨b0, b1⟩ := capN_bd (dvalA n (s.data.toList.take k))
    obtain ⟨V, hV⟩ : ∃ V, dvalA n (s.data.toList.take k) = V := ⟨_, rfl⟩
    obtain ⟨X, hX⟩ : ∃ X, capN V = X := ⟨_, rfl⟩
    rw [hV, hX] at b0 b1
    simp only [hV, hX]
    have HV := Lib.hid hV; have HX := Lib.hid hX
    clear hV hX
    by_cases hlt : k < s.size
    · have hkz : (k : Int) < (s.size : Int) := by omega
      have hd : dig s[k] = true := by
        have h := HALL.out
        unfold allDig at h
        rw [List.all_eq_true] at h
        refine h _ ?_
        have : s[k] = s.data.toList[k]'(by rw [size_list]; exact hlt) := rfl
        rw [this]; exact List.getElem_mem _
      simp only [dig, decide_eq_true_eq] at hd
      obtain ⟨d, hdd⟩ : ∃ d : Nat, (s[k].toNat : Int) - 48 = (d : Int) := ⟨s[k].toNat - 48, by omega⟩
      have hd9 : (d : Int) ≤ 9 := by omega
      have hd0 : 0 ≤ (d : Int) := by omega
      have hw8 : IntKind.u8.wrap ((s[k].toNat : Int) - 48) = (d : Int) := by rw [IntKind.wrap_u8]; omega
      have hw64 : IntKind.i64.wrap (d : Int) = (d : Int) := by rw [IntKind.wrap_i64]; omega
      have hwx : wrap64 (X * 10) = X * 10 := by unfold wrap64; omega
      have hwy : wrap64 (X * 10 + d) = X * 10 + d := by unfold wrap64; omega
      obtain ⟨k1, k2⟩ := capN_step V d
      rw [HX.out] at k1 k2
      have hstep : dvalA n (s.data.toList.take (k + 1)) = V * 10 + d := by
        rw [WM.take_snoc s k hlt, dvalA_snoc, HV.out]; omega
      have HS := Lib.hid hstep
      clear hstep hdd hd
      by_cases hle : X * 10 + d ≤ 1000000000001
      · have HK := Lib.hid (k1 hle)
        clear k1 k2
        go_wp2
        go_round
        case rel => exact ⟨k + 1, by omega, by go_num, by rw [HS.out, HK.out]⟩
        case measure => simp [RowKit.intOf]; omega
      · have HK := Lib.hid (k2 hle)
        clear k1 k2
        go_wp2
        go_round
        case rel => exact ⟨k + 1, by omega, by go_num, by rw [HS.out, HK.out]; first | rfl | go_num⟩
        case measure => simp [RowKit.intOf]; omega
    · have he : k = s.size := by omega
      subst he
      have hv := HV.out
      rw [List.take_of_length_le (by rw [size_list]; omega)] at hv
      have HN := Lib.hid hv
      clear hv
      go_wp2
      go_ret
      exact ⟨by rw [HN.out, HX.out]; rfl, rfl⟩

set_option maxHeartbeats 1000000 in
theorem mshortest (s : ByteArray) (hs : s.size ≤ 9223372036854775807) (w : World) :
    Calls Tryd.prog 34 #[.string s] w fun e w' => e = .returned (.bool (shortB s.data.toList false)) ∧ w = w' := by
  have hsz := size_list s
  have et : s.toList = s.data.toList := Lib.toList_data s
  cases hl : s.data.toList with
  | nil =>
    rw [hl] at et hsz
    have e1 : (s.toList == [48]) = false := by rw [et]; rfl
    have e2 : s.toList.isEmpty = true := by rw [et]; rfl
    have HN : Hid (shortB [] false = false) := Lib.hid rfl
    clear et hsz hl
    go_enter Tryd.func34, Tryd.ntmps34
    go_wp2
    go_ret
    exact ⟨by rw [HN.out]; rfl, rfl⟩
  | cons c t =>
    have hpos : 0 < s.size := by rw [← hsz, hl]; simp
    have hposz : 0 < (s.size : Int) := by omega
    have hc : s[0] = c := by
      have : s[0] = s.data.toList[0]'(by rw [hl]; simp) := rfl
      rw [this]; simp [hl]
    rw [hl] at et
    have e2 : s.toList.isEmpty = false := by rw [et]; rfl
    by_cases h48 : c = 48
    · subst h48
      cases t with
      | nil =>
        have e1 : (s.toList == [48]) = true := by rw [et]; rfl
        have HN : Hid (shortB [48] false = true) := Lib.hid rfl
        clear et hsz hl hc
        go_enter Tryd.func34, Tryd.ntmps34
        go_wp2
        go_ret
        exact ⟨by rw [HN.out]; rfl, rfl⟩
      | cons b u =>
        have e1 : (s.toList == [48]) = false := by rw [et, beq_eq_false_iff_ne]; intro h; cases h
        have e3 : ((s[0].toNat : Int) == 48) = true := by rw [hc]; rfl
        have e4 : (s[0].toNat : Int) = 48 := by rw [hc]; rfl
        have HN : Hid (shortB (48 :: b :: u) false = false) := Lib.hid rfl
        clear et hsz hl hc
        go_enter Tryd.func34, Tryd.ntmps34
        go_wp2
        go_ret
        exact ⟨by rw [HN.out]; rfl, rfl⟩
    · have e1 : (s.toList == [48]) = false := by
        rw [et, beq_eq_false_iff_ne]; intro h; injection h with h _; exact h48 h
      have hn : ¬ (s[0].toNat : Int) = 48 := by
        rw [hc]; intro h; apply h48
        apply UInt8.toNat_inj.1
        rw [show (48 : UInt8).toNat = 48 from rfl]; omega
      have e3 : ((s[0].toNat : Int) == 48) = false := by rw [beq_eq_false_iff_ne]; exact hn
      have HN : Hid (shortB (c :: t) false = true) := Lib.hid (by
        show ((c != 48) || (t.isEmpty && !false)) = true
        have : (c != 48) = true := by rw [bne_iff_ne]; exact h48
        rw [this]; rfl)
      have E5 : Hid (((s[0].toNat : Int) != 48) = true) := Lib.hid (by rw [bne_iff_ne]; exact hn)
      clear et hsz hl hc
      go_enter Tryd.func34, Tryd.ntmps34
      go_wp2
      go_ret
      refine ⟨?_, rfl⟩
      show Ending.returned (.bool ((s[0].toNat : Int) != 48)) = _
      rw [E5.out, HN.out]

set_option maxHeartbeats 1000000 in
theorem mcut (s : ByteArray) (d : Nat) (hd : d ≤ 4) (hs : s.size ≤ 9223372036854775807) (w : World) :
    Calls Tryd.prog 33 #[.string s, .int .i64 d] w fun e w' =>
      e = .returned (.tuple #[.string (if pFound s.data.toList d then str (pWhole s.data.toList d) else ⟨#[]⟩), .string (if pFound s.data.toList d then str (pFrac s.data.toList d) else ⟨#[]⟩), .bool (pFound s.data.toList d)]) ∧ Below w.heap.size w w' := by
  have hsz := size_list s
  obtain ⟨F, hF⟩ : ∃ F, pFound s.data.toList d = F := ⟨_, rfl⟩
  obtain ⟨X, hX⟩ : ∃ X, (if F = true then str (pWhole s.data.toList d) else ⟨#[]⟩) = X := ⟨_, rfl⟩
  obtain ⟨Y, hY⟩ : ∃ Y, (if F = true then str (pFrac s.data.toList d) else ⟨#[]⟩) = Y := ⟨_, rfl⟩
  rw [hF, hX, hY]
  by_cases h0 : d = 0
  · subst h0
    have eF : F = true := by rw [← hF]; rfl
    subst eF
    have HX : Hid (X = s) := Lib.hid (by rw [← hX, if_pos rfl]; unfold pWhole; rw [if_pos rfl]; exact list_str s)
    have HY : Hid (Y = ⟨#[]⟩) := Lib.hid (by rw [← hY, if_pos rfl]; unfold pFrac; rw [if_pos rfl]; rfl)
    clear hsz hX hY hF
    go_enter Tryd.func33, Tryd.ntmps33
    go_wp2
    go_ret3
    exact ⟨by rw [HX.out, HY.out]; rfl, bref _⟩
  · have hz0 : ((d : Int) == 0) = false := by rw [beq_eq_false_iff_ne]; omega
    have hn0 : ¬ (d : Int) = 0 := by omega
    by_cases hp : d + 1 ≤ s.size
    · obtain ⟨p, hpp⟩ : ∃ p : Nat, p = s.size - d - 1 := ⟨_, rfl⟩
      have hpi : (s.size : Int) - d - 1 = (p : Int) := by omega
      have hp1 : p < s.size := by omega
      have hwa : wrap64 ((s.size : Int) - d) = (s.size : Int) - d := by unfold wrap64; omega
      have hwb : wrap64 ((s.size : Int) - d - 1) = (p : Int) := by unfold wrap64; omega
      have hwc : wrap64 ((p : Int) + 1) = (p : Int) + 1 := by unfold wrap64; omega
      have hg : s.data.toList.getD (s.data.toList.length - d - 1) 0 = s[p] := by
        rw [hsz, ← hpp]
        have : s[p] = s.data.toList[p]'(by rw [hsz]; exact hp1) := rfl
        rw [this]; simp [List.getD, hsz, hp1]
      by_cases hdot : s[p] = 46
      · have eF : F = true := by
          rw [← hF]; unfold pFound; rw [hg, hdot, hsz, decide_eq_true hp]; simp
        subst eF
        have HX : Hid (s.extract 0 p = X) := Lib.hid (by rw [← hX, if_pos rfl]; unfold pWhole; rw [if_neg h0, str_cut, hsz, ← hpp, List.drop_zero])
        have HY : Hid (s.extract (p + 1) s.size = Y) := Lib.hid (by
          rw [← hY, if_pos rfl]; unfold pFrac; rw [if_neg h0, str_cut, hsz, show s.size - d = p + 1 by omega, List.take_of_length_le (by omega)])
        have h46 : (s[p].toNat : Int) = 46 := by rw [hdot]; rfl
        have h46b : ((s[p].toNat : Int) == 46) = true := by rw [h46]; rfl
        clear hg hdot hF hsz hX hY hpp
        go_enter Tryd.func33, Tryd.ntmps33
        go_wp2_with fail
        go_quiet (fail)
        go_wp2_with fail
        go_ret3
        exact ⟨by rw [← HX.out, ← HY.out]; rfl, bdn (bref _) _⟩
      · have eF : F = false := by
          have : (s[p] == 46) = false := by rw [beq_eq_false_iff_ne]; exact hdot
          rw [← hF]; unfold pFound; rw [hg, this, Bool.and_false, Bool.or_false]; simpa using h0
        subst eF
        have HX : Hid (X = ⟨#[]⟩) := Lib.hid (by rw [← hX, if_neg (by decide)])
        have HY : Hid (Y = ⟨#[]⟩) := Lib.hid (by rw [← hY, if_neg (by decide)])
        have h46 : ¬ (s[p].toNat : Int) = 46 := by
          intro h; apply hdot
          apply UInt8.toNat_inj.1
          rw [show (46 : UInt8).toNat = 46 from rfl]; omega
        have h46b : ((s[p].toNat : Int) != 46) = true := by rw [bne_iff_ne]; exact h46
        clear hg hdot hsz hX hY hF hpp
        go_enter Tryd.func33, Tryd.ntmps33
        go_wp2_with fail
        go_ret3
        exact ⟨by rw [HX.out, HY.out]; rfl, bref _⟩
    · have eF : F = false := by
        rw [← hF]; unfold pFound; rw [hsz, decide_eq_false hp, Bool.false_and, Bool.or_false]; simpa using h0
      subst eF
      have HX : Hid (X = ⟨#[]⟩) := Lib.hid (by rw [← hX, if_neg (by decide)])
      have HY : Hid (Y = ⟨#[]⟩) := Lib.hid (by rw [← hY, if_neg (by decide)])
      have hwa : wrap64 ((s.size : Int) - d) = (s.size : Int) - d := by unfold wrap64; omega
      have hwb : wrap64 ((s.size : Int) - d - 1) = (s.size : Int) - d - 1 := by unfold wrap64; omega
      have hlt : (s.size : Int) - d - 1 < 0 := by omega
      clear hsz hX hY hF
      go_enter Tryd.func33, Tryd.ntmps33
      go_wp2_with fail
      go_ret3
      exact ⟨by rw [HX.out, HY.out]; rfl, bref _⟩
end Go.Proofs.YtkijbckpfcfcpabDoor
