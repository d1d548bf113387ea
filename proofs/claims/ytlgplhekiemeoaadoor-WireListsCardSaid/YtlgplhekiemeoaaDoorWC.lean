/-
  Numbers read: contracts of package wire's TakeInt, and of the document's own.
-/
import Derived.Test.YtlgplhekiemeoaaDoorWB
namespace Go.Proofs.YtlgplhekiemeoaaDoor
open Go Go.RowKit Go.Lib WM

/-- The library's error of the range is one. -/
def Er (w : World) : Prop := ∃ tp p, w.var? Tryd.prog "strconv.ErrRange" = some #[.iface tp p]
theorem gEr : ∃ g, Tryd.prog.globalNamed "strconv.ErrRange" = some g := ⟨2, by kernel_rfl⟩
theorem Er.keep {w w' : World} (h : Er w) (hb : Below w.heap.size w w') : Er w' := by
  obtain ⟨tp, p, h⟩ := h
  obtain ⟨g, hg⟩ := gEr
  refine ⟨tp, p, ?_⟩
  unfold World.var? at *
  rw [hg] at h ⊢
  simp only [Option.bind_some] at h ⊢
  have hlt : g < w.heap.size := by
    rcases Nat.lt_or_ge g w.heap.size with c | c
    · exact c
    · rw [Array.getElem?_eq_none c] at h; simp at h
  rw [hb.block _ hlt]
  exact h

set_option maxRecDepth 100000 in
set_option maxHeartbeats 1000000 in
theorem mtake (s : ByteArray) (hs : s.size ≤ 281474976710656) (w : World) (hE : Er w) :
    Calls Tryd.prog 16 #[.string s] w fun e w' => e = .returned (.tuple #[.int .i64 (tiV s.data.toList), .int .i64 (tiE s.data.toList)]) ∧ Below w.heap.size w w' := by
  have D := fun W => mdecimal s (by omega) W
  obtain ⟨l, hl⟩ : ∃ l, s.data.toList = l := ⟨_, rfl⟩
  have AT := atoi_ti l
  have OK := fun v h W => Tryd.strconv_Atoi_ok s (by omega) v h W
  have RG := fun h tp p W hv => Tryd.strconv_Atoi_range_var s hs h tp p W hv
  rw [hl] at D OK RG ⊢
  clear hl
  have HE := Lib.hid hE
  cases hT : tiOk l
  · have HR := Lib.hid (ti_bad hT)
    rw [hT] at D
    have DD := Lib.hid D
    clear hT AT OK RG D hE
    go_enter Tryd.func16, Tryd.ntmps16
    go_wp2_with fail
    refine (DD.out _).mono ?_
    rintro e w1 ⟨rfl, rfl⟩
    go_wp2_with fail
    go_ret2
    exact ⟨by rw [HR.out.1, HR.out.2]; rfl, bref _⟩
  · rw [hT] at D
    have AT1 := AT hT
    have DD := Lib.hid D
    cases h2 : i64B (tiN l)
    · have HR := Lib.hid (ti_over hT h2)
      rw [h2] at AT1
      obtain ⟨tp, p, hv⟩ := hE
      have HV := Lib.hid hv
      have RR := Lib.hid (RG AT1)
      clear hT AT AT1 OK RG D h2 hv
      go_enter Tryd.func16, Tryd.ntmps16
      go_wp2_with fail
      refine (DD.out _).mono ?_
      rintro e w1 ⟨rfl, rfl⟩
      go_wp2_with fail
      refine (RR.out tp p _ HV.out).mono ?_
      rintro e w2 ⟨N, rfl, _, _, q2⟩
      go_wp2_with fail
      go_ret2
      exact ⟨by rw [HR.out.1, HR.out.2]; rfl, q2⟩
    · have HR := ti_ok hT h2
      rw [h2] at AT1
      have RR := OK (tiN l) AT1
      rw [← HR.2] at RR
      obtain ⟨v, hv⟩ : ∃ v, tiV l = v := ⟨_, rfl⟩
      rw [hv] at RR ⊢
      have RR2 := Lib.hid RR
      have HR2 := Lib.hid HR.1
      clear hT AT AT1 OK RG D h2 hE HR RR hv
      go_enter Tryd.func16, Tryd.ntmps16
      go_wp2_with fail
      refine (DD.out _).mono ?_
      rintro e w1 ⟨rfl, rfl⟩
      go_wp2_with fail
      refine (RR2.out _).mono ?_
      rintro e w2 ⟨rfl, hw⟩
      have q2 : Below w.heap.size w w2 := by
        rcases hw with h | ⟨t, h⟩
        · rw [h]; exact bref _
        · rw [h]; exact Lib.bytesWorld_below _ _ _
      clear hw
      go_wp2_with fail
      go_ret2
      exact ⟨by rw [HR2.out]; rfl, q2⟩

theorem neg_forms (s : ByteArray) : (s = ⟨#[]⟩ ∧ isNeg s.data.toList = false) ∨ (∃ h : 0 < s.size, (s[0].toNat : Int) = 45 ∧ isNeg s.data.toList = true) ∨ (∃ h : 0 < s.size, ¬ (s[0].toNat : Int) = 45 ∧ isNeg s.data.toList = false) := by
  obtain ⟨⟨l⟩⟩ := s
  cases l with
  | nil => exact Or.inl ⟨rfl, rfl⟩
  | cons c t =>
    have h0 : 0 < (ByteArray.mk ⟨c :: t⟩).size := by simp [ByteArray.size]
    by_cases hc : c = 45
    · subst hc
      exact Or.inr (Or.inl ⟨h0, rfl, (neg_cons t).1⟩)
    · refine Or.inr (Or.inr ⟨h0, ?_, ?_⟩)
      · intro e; exact hc (UInt8.toNat_inj.1 (by have : (45 : UInt8).toNat = 45 := rfl; have h1 : (ByteArray.mk ⟨c :: t⟩)[0] = c := rfl; rw [h1] at e; omega))
      · show ((45 : UInt8) == c && List.isPrefixOf [] t) = false
        have : ((45 : UInt8) == c) = false := by rw [beq_eq_false_iff_ne]; exact fun e => hc e.symm
        rw [this]; rfl
theorem neg_cut (s : ByteArray) (h : isNeg s.data.toList = true) : s.extract 1 s.size = str (digs s.data.toList) := by
  rw [str_cut, ← size_list, List.take_length]
  conv => lhs; rw [neg_yes _ h]
  rfl

set_option maxRecDepth 100000 in
set_option maxHeartbeats 2000000 in
theorem rtake (s : ByteArray) (hs : s.size ≤ 281474976710656) (w : World) :
    Calls Tryd.prog 17 #[.string s] w fun e w' => e = .returned (.tuple #[.int .i64 (tiV s.data.toList), .int .i64 (tiE s.data.toList)]) ∧ w = w' := by
  rcases neg_forms s with ⟨rfl, hn⟩ | ⟨h0, h45, hn⟩ | ⟨h0, h45, hn⟩
  · have NN := Lib.hid (fun W => rnat_text ⟨#[]⟩ (by decide) W)
    clear hn
    go_enter Tryd.func17, Tryd.ntmps17
    go_wp2_with fail
    refine (NN.out _).mono ?_
    rintro e w1 ⟨rfl, rfl⟩
    go_wp2_with fail
    go_ret2
    exact ⟨rfl, rfl⟩
  · have hc := neg_cut s hn
    have hcs : (s.extract 1 s.size).size ≤ 281474976710656 := by rw [ByteArray.size_extract]; omega
    obtain ⟨l, hl⟩ : ∃ l, s.data.toList = l := ⟨_, rfl⟩
    obtain ⟨U, hU⟩ : ∃ U, s.extract 1 s.size = U := ⟨_, rfl⟩
    rw [hU] at hc hcs
    rw [hl] at hn hc ⊢
    have HU : Hid (digs l = U.data.toList) := Lib.hid (by rw [hc, str_list])
    have HG := Lib.hid hn
    have N0 := fun W => rnat_text U (by omega) W
    have hO : tiOk l = (shortB U.data.toList true && allDig U.data.toList) := by unfold tiOk; rw [HG.out, HU.out]
    have HF := Lib.hid (forms U true)
    have HF2 := Lib.hid (forms U false)
    have hsz : (1 : Int) ≤ (s.size : Int) := by omega
    clear hl hn hc
    rcases HF.out with ⟨h1, h2⟩ | ⟨h1, h2⟩ | ⟨hp, h1, ⟨g1, g2⟩, h3⟩ | ⟨hp, h1, ⟨g1, g2⟩, h2⟩
    · have HR := Lib.hid (ti_bad (l := l) (by rw [hO, h2]; rfl))
      subst h1
      have NN := Lib.hid N0
      clear N0 hO h2 HF HF2
      go_enter Tryd.func17, Tryd.ntmps17
      go_wp2_with fail
      refine (NN.out _).mono ?_
      rintro e w1 ⟨rfl, rfl⟩
      go_wp2_with fail
      go_ret2
      exact ⟨by rw [HR.out.1, HR.out.2]; rfl, rfl⟩
    · have HR := Lib.hid (ti_bad (l := l) (by rw [hO, h2]; rfl))
      subst h1
      have NN := Lib.hid N0
      clear N0 hO h2 HF HF2
      go_enter Tryd.func17, Tryd.ntmps17
      go_wp2_with fail
      refine (NN.out _).mono ?_
      rintro e w1 ⟨rfl, rfl⟩
      go_wp2_with fail
      go_ret2
      exact ⟨by rw [HR.out.1, HR.out.2]; rfl, rfl⟩
    · have HR := Lib.hid (ti_bad (l := l) (by rw [hO, h3]; rfl))
      have hq : shortB U.data.toList false = false := by
        rcases HF2.out with ⟨h, _⟩ | ⟨h, _⟩ | ⟨_, _, _, h⟩ | ⟨_, h, _⟩
        · rw [h] at hp; exact absurd hp (by decide)
        · exact absurd (by rw [h, Lib.toList_data]) g2
        · exact h
        · exact absurd h1 h
      rw [hq, Bool.false_and] at N0
      have NN := Lib.hid N0
      clear N0 hO h1 h3 hq HF HF2
      go_enter Tryd.func17, Tryd.ntmps17
      go_wp2_with fail
      refine (NN.out _).mono ?_
      rintro e w1 ⟨rfl, rfl⟩
      go_wp2_with fail
      go_ret2
      exact ⟨by rw [HR.out.1, HR.out.2]; rfl, rfl⟩
    · have hq : shortB U.data.toList false = true := short_weak _ _ h2
      rw [hq, Bool.true_and] at N0
      rw [h2, Bool.true_and] at hO
      have g3 : (U.toList == [48]) = false := by rw [beq_eq_false_iff_ne]; exact g2
      cases ha : allDig U.data.toList
      · have HR := Lib.hid (ti_bad (l := l) (by rw [hO, ha]))
        rw [ha] at N0
        have NN := Lib.hid N0
        clear N0 hO h1 h2 hq ha HF HF2
        go_enter Tryd.func17, Tryd.ntmps17
        go_wp2_with fail
        refine (NN.out _).mono ?_
        rintro e w1 ⟨rfl, rfl⟩
        go_wp2_with fail
        go_ret2
        exact ⟨by rw [HR.out.1, HR.out.2]; rfl, rfl⟩
      · have OK := Lib.hid (show tiOk l = true by rw [hO, ha])
        rw [ha] at N0
        have NN := Lib.hid N0
        have HALL := Lib.hid ha
        have HP := Lib.hid (short_pos _ ha h2)
        clear N0 hO h1 h2 hq ha HF HF2
        go_enter Tryd.func17, Tryd.ntmps17
        go_wp2_with fail
        refine (NN.out _).mono ?_
        rintro e w1 ⟨rfl, rfl⟩
        go_wp2_with fail
        go_loop [7, 8] (fun x i => ∃ (k : Nat) (X : Nat), k ≤ U.size ∧ i = .int .i64 k ∧ x = .int .u64 X ∧ X = dval (U.data.toList.take k) ∧ X ≤ limN true) (fun _ i => U.size - (RowKit.intOf i).toNat)
        case atStart => exact ⟨0, 0, by omega, rfl, rfl, rfl, by omega⟩
        case round =>
          obtain ⟨k, X, hk, rfl, rfl, hX, hXL⟩ := hrel
          have HX := Lib.hid hX
          clear hX
          by_cases hlt : k < U.size
          · have hkz : (k : Int) < (U.size : Int) := by omega
            obtain ⟨c0, c1⟩ := dig_at U k hlt HALL.out
            obtain ⟨d, hd⟩ : ∃ d : Nat, (U[k].toNat : Int) - 48 = (d : Int) := ⟨U[k].toNat - 48, by omega⟩
            obtain ⟨R, hR⟩ : ∃ R : Nat, (9223372036854775808 : Int) - (d : Int) = (R : Int) := ⟨(9223372036854775808 - (d : Int)).toNat, by omega⟩
            obtain ⟨z, hz⟩ : ∃ z : Nat, (R : Int) / 10 = (z : Int) := ⟨R / 10, by omega⟩
            obtain ⟨P, hP⟩ : ∃ P : Nat, P = X * 10 := ⟨_, rfl⟩
            obtain ⟨Y, hY⟩ : ∃ Y : Nat, Y = P + d := ⟨_, rfl⟩
            have hstep : Y = dval (U.data.toList.take (k + 1)) := by
              rw [WM.take_snoc U k hlt, dval_snoc, ← HX.out]; omega
            have HS := Lib.hid hstep
            have w8 : IntKind.u8.wrap ((U[k].toNat : Int) - 48) = (d : Int) := by rw [IntKind.wrap_u8]; omega
            have w9 : IntKind.u64.wrap (d : Int) = (d : Int) := by rw [IntKind.wrap_u64]; omega
            have wR : IntKind.u64.wrap (9223372036854775808 - (d : Int)) = (R : Int) := by rw [IntKind.wrap_u64]; omega
            have wz : IntKind.u64.wrap (z : Int) = (z : Int) := by rw [IntKind.wrap_u64]; omega
            by_cases hc : z < X
            · have hcz : (z : Int) < (X : Int) := by omega
              have HR := Lib.hid (take_over OK.out (k + 1) (by rw [HU.out, HG.out, ← hstep]; unfold limN; simp; omega))
              clear hstep c0 c1 hd hR hP hY hk hXL HX HS
              go_wp2_with fail
              go_ret2
              exact ⟨by rw [HR.out.1, HR.out.2]; rfl, rfl⟩
            · have hcz : ¬ (z : Int) < (X : Int) := by omega
              have HY := Lib.hid (show Y ≤ limN true by unfold limN at *; simp at *; omega)
              have wP : IntKind.u64.wrap ((X : Int) * 10) = (P : Int) := by rw [IntKind.wrap_u64]; unfold limN at hXL; simp at hXL; omega
              have wY : IntKind.u64.wrap ((P : Int) + (d : Int)) = (Y : Int) := by rw [IntKind.wrap_u64]; have := HY.out; unfold limN at this; simp at this; omega
              have HL := Lib.hid hXL
              clear hstep c0 c1 hd hR hP hY HX hXL
              go_wp2_with fail
              go_round
              case rel => exact ⟨k + 1, Y, by omega, by go_num, rfl, HS.out, HY.out⟩
              case measure => simp [RowKit.intOf]; omega
          · have he : k = U.size := by omega
            subst he
            have hX := HX.out
            rw [List.take_of_length_le (by rw [size_list]; omega)] at hX
            have hf := take_fine OK.out (by rw [HU.out, HG.out, ← hX]; exact hXL)
            rw [HU.out, HG.out, ← hX] at hf
            unfold limN at hXL
            simp at hXL
            have hX1 := HP.out
            rw [← hX] at hX1
            obtain ⟨C, hC⟩ : ∃ C : Nat, 18446744073709551615 - (X : Int) = (C : Int) := ⟨(18446744073709551615 - (X : Int)).toNat, by omega⟩
            obtain ⟨D, hD⟩ : ∃ D : Nat, (C : Int) + 1 = (D : Int) := ⟨C + 1, by omega⟩
            obtain ⟨V, hV⟩ : ∃ V : Int, -(X : Int) = V := ⟨_, rfl⟩
            have hx : bits .xor .u64 IntKind.u64.max (X : Int) = (C : Int) := by rw [u64_not _ (by omega)]; omega
            have hy : IntKind.u64.wrap ((C : Int) + 1) = (D : Int) := by rw [IntKind.wrap_u64]; omega
            have hz : wrap64 (D : Int) = V := by unfold wrap64; omega
            have HR : Hid (tiE l = 0 ∧ tiV l = V) := Lib.hid ⟨hf.1, by rw [hf.2, ← hV]; unfold WM.signed; simp⟩
            clear hX hX1 hf hV HX hC hD hXL
            go_wp2_with fail
            go_ret2
            exact ⟨by rw [HR.out.1, HR.out.2]; rfl, rfl⟩
  · obtain ⟨l, hl⟩ : ∃ l, s.data.toList = l := ⟨_, rfl⟩
    have hd := neg_no _ hn
    obtain ⟨U, hU⟩ : ∃ U, s = U := ⟨_, rfl⟩
    subst hU
    rw [hl] at hn hd
    have HU : Hid (digs l = s.data.toList) := Lib.hid (by rw [hd, hl])
    have HG := Lib.hid hn
    have N0 := fun W => rnat_text s (by omega) W
    rw [hl] at N0 HU ⊢
    have hO : tiOk l = (shortB l false && allDig l) := by unfold tiOk; rw [HG.out, HU.out]
    rw [← hO] at N0
    have h46 : ((s[0].toNat : Int) == 45) = false := by rw [beq_eq_false_iff_ne]; exact h45
    have HL := Lib.hid hl
    cases ho : tiOk l
    · have HR := Lib.hid (ti_bad ho)
      rw [ho] at N0
      have NN := Lib.hid N0
      clear hl hn hd hO N0 ho
      go_enter Tryd.func17, Tryd.ntmps17
      go_wp2_with fail
      refine (NN.out _).mono ?_
      rintro e w1 ⟨rfl, rfl⟩
      go_wp2_with fail
      go_ret2
      exact ⟨by rw [HR.out.1, HR.out.2]; rfl, rfl⟩
    · have OK := Lib.hid ho
      have HALL : Hid (allDig s.data.toList = true) := Lib.hid (by rw [hO, Bool.and_eq_true] at ho; rw [HL.out]; exact ho.2)
      rw [ho] at N0
      have NN := Lib.hid N0
      have HU2 : Hid (digs l = s.data.toList) := Lib.hid (by rw [HU.out, HL.out])
      clear hl hn hd hO N0 ho HU
      go_enter Tryd.func17, Tryd.ntmps17
      go_wp2_with fail
      refine (NN.out _).mono ?_
      rintro e w1 ⟨rfl, rfl⟩
      go_wp2_with fail
      go_loop [7, 8] (fun x i => ∃ (k : Nat) (X : Nat), k ≤ s.size ∧ i = .int .i64 k ∧ x = .int .u64 X ∧ X = dval (s.data.toList.take k) ∧ X ≤ limN false) (fun _ i => s.size - (RowKit.intOf i).toNat)
      case atStart => exact ⟨0, 0, by omega, rfl, rfl, rfl, by omega⟩
      case round =>
        obtain ⟨k, X, hk, rfl, rfl, hX, hXL⟩ := hrel
        have HX := Lib.hid hX
        clear hX
        by_cases hlt : k < s.size
        · have hkz : (k : Int) < (s.size : Int) := by omega
          obtain ⟨c0, c1⟩ := dig_at s k hlt HALL.out
          obtain ⟨d, hd⟩ : ∃ d : Nat, (s[k].toNat : Int) - 48 = (d : Int) := ⟨s[k].toNat - 48, by omega⟩
          obtain ⟨R, hR⟩ : ∃ R : Nat, (9223372036854775807 : Int) - (d : Int) = (R : Int) := ⟨(9223372036854775807 - (d : Int)).toNat, by omega⟩
          obtain ⟨z, hz⟩ : ∃ z : Nat, (R : Int) / 10 = (z : Int) := ⟨R / 10, by omega⟩
          obtain ⟨P, hP⟩ : ∃ P : Nat, P = X * 10 := ⟨_, rfl⟩
          obtain ⟨Y, hY⟩ : ∃ Y : Nat, Y = P + d := ⟨_, rfl⟩
          have hstep : Y = dval (s.data.toList.take (k + 1)) := by
            rw [WM.take_snoc s k hlt, dval_snoc, ← HX.out]; omega
          have HS := Lib.hid hstep
          have w8 : IntKind.u8.wrap ((s[k].toNat : Int) - 48) = (d : Int) := by rw [IntKind.wrap_u8]; omega
          have w9 : IntKind.u64.wrap (d : Int) = (d : Int) := by rw [IntKind.wrap_u64]; omega
          have wR : IntKind.u64.wrap (9223372036854775807 - (d : Int)) = (R : Int) := by rw [IntKind.wrap_u64]; omega
          have wz : IntKind.u64.wrap (z : Int) = (z : Int) := by rw [IntKind.wrap_u64]; omega
          by_cases hc : z < X
          · have hcz : (z : Int) < (X : Int) := by omega
            have HR := Lib.hid (take_over OK.out (k + 1) (by rw [HU2.out, HG.out, ← hstep]; unfold limN; simp; omega))
            clear hstep c0 c1 hd hR hP hY hk hXL HX HS
            go_wp2_with fail
            go_ret2
            exact ⟨by rw [HR.out.1, HR.out.2]; rfl, rfl⟩
          · have hcz : ¬ (z : Int) < (X : Int) := by omega
            have HY := Lib.hid (show Y ≤ limN false by unfold limN at *; simp at *; omega)
            have wP : IntKind.u64.wrap ((X : Int) * 10) = (P : Int) := by rw [IntKind.wrap_u64]; unfold limN at hXL; simp at hXL; omega
            have wY : IntKind.u64.wrap ((P : Int) + (d : Int)) = (Y : Int) := by rw [IntKind.wrap_u64]; have := HY.out; unfold limN at this; simp at this; omega
            have HL := Lib.hid hXL
            clear hstep c0 c1 hd hR hP hY HX hXL
            go_wp2_with fail
            go_round
            case rel => exact ⟨k + 1, Y, by omega, by go_num, rfl, HS.out, HY.out⟩
            case measure => simp [RowKit.intOf]; omega
        · have he : k = s.size := by omega
          subst he
          have hX := HX.out
          rw [List.take_of_length_le (by rw [size_list]; omega)] at hX
          have hf := take_fine OK.out (by rw [HU2.out, HG.out, ← hX]; exact hXL)
          rw [HU2.out, HG.out, ← hX] at hf
          unfold limN at hXL
          simp at hXL
          obtain ⟨V, hV⟩ : ∃ V : Int, (X : Int) = V := ⟨_, rfl⟩
          have hz : wrap64 (X : Int) = V := by unfold wrap64; omega
          have HR : Hid (tiE l = 0 ∧ tiV l = V) := Lib.hid ⟨hf.1, by rw [hf.2, ← hV]; unfold WM.signed; simp⟩
          clear hX hf hV HX  hXL
          go_wp2_with fail
          go_ret2
          exact ⟨by rw [HR.out.1, HR.out.2]; rfl, rfl⟩
end Go.Proofs.YtlgplhekiemeoaaDoor
