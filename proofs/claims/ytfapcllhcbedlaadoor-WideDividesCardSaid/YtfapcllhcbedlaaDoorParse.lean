/-
  The contracts of package wide's shortest and Parse.
-/
import Derived.Test.YtfapcllhcbedlaaDoorRead
import Derived.Test.YtfapcllhcbedlaaDoorMathG
import Derived.Test.YtfapcllhcbedlaaDoorShelf
import Derived.Deep.QuietTactic
import Derived.BigQuiet
import Derived.WalkSpells
namespace Go.Proofs.YtfapcllhcbedlaaDoor
open Go Go.RowKit Go.Lib WM

theorem shortB_ne (d : ByteArray) (hp : 0 < d.size) (h : ¬ (d[0].toNat : Int) = 48) (neg : Bool) : shortB d.data.toList neg = true := by
  obtain ⟨⟨l⟩⟩ := d
  match l, hp, h with
  | c :: t, _, h =>
    have hc : (c != 48) = true := by
      rw [bne_iff_ne]
      rintro rfl
      exact h rfl
    show ((c != 48) || (t.isEmpty && !neg)) = true
    rw [hc]; rfl
theorem shortB_48 (d : ByteArray) (hp : 0 < d.size) (h : (d[0].toNat : Int) = 48) (neg : Bool) : shortB d.data.toList neg = (decide (d.size = 1) && !neg) := by
  obtain ⟨⟨l⟩⟩ := d
  match l, hp, h with
  | c :: t, _, h =>
    have hc : (c != 48) = false := by
      rw [bne_eq_false_iff_eq]
      have h' : (c.toNat : Int) = 48 := h
      exact UInt8.toNat_inj.1 (by rw [show (48 : UInt8).toNat = 48 from rfl]; omega)
    show ((c != 48) || (t.isEmpty && !neg)) = (decide ((c :: t).length = 1) && !neg)
    rw [hc]
    cases t <;> simp

set_option maxHeartbeats 2000000 in
theorem shortest_any (d : ByteArray) (hs : d.size ≤ 1000000) (neg : Bool) (w : World) :
    Calls Tryd.prog 71 #[.string d, .bool neg] w fun e w' => e = .returned (.bool (shortB d.data.toList neg)) ∧ Below w.heap.size w w' := by
  by_cases h0 : d.size = 0
  · have e : d.data.toList = [] := by
      apply List.eq_nil_of_length_eq_zero
      rw [Array.length_toList]; exact h0
    have HE : Hid (shortB d.data.toList neg = false) := Lib.hid (by rw [e]; rfl)
    have h1 : d.toList.isEmpty = true := by rw [Lib.toList_data, e]; rfl
    go_enter Tryd.func71, Tryd.ntmps71
    go_wp2_with fail
    go_ret
    exact ⟨by rw [HE.out]; rfl, bref _⟩
  · have hpos : 0 < d.size := by omega
    have hl : d.data.toList.length = d.size := by rw [Array.length_toList]; rfl
    have h1 : d.toList.isEmpty = false := by
      rw [Lib.toList_data]
      cases h : d.data.toList with
      | nil => rw [h] at hl; simp at hl; omega
      | cons => rfl
    have HL := Lib.hid hl
    clear hl h0
    cases neg
    · by_cases h2 : d.size = 1
      · have h3 : ((d.size : Int) == 1) = true := by rw [beq_iff_eq]; omega
        go_enter Tryd.func71, Tryd.ntmps71
        go_wp2_with fail
        · go_ret
          exact ⟨by rw [shortB_48 d hpos (by assumption)]; simp [h2], bref _⟩
        · go_ret
          exact ⟨by rw [shortB_ne d hpos (by assumption)]; rfl, bref _⟩
      · have h3 : ((d.size : Int) == 1) = false := by rw [beq_eq_false_iff_ne]; omega
        go_enter Tryd.func71, Tryd.ntmps71
        go_wp2_with fail
        · go_ret
          exact ⟨by rw [shortB_48 d hpos (by assumption)]; simp [h2], bref _⟩
        · go_ret
          exact ⟨by rw [shortB_ne d hpos (by assumption)]; rfl, bref _⟩
    · by_cases h2 : d.size = 1
      · have h3 : ((d.size : Int) == 1) = true := by rw [beq_iff_eq]; omega
        go_enter Tryd.func71, Tryd.ntmps71
        go_wp2_with fail
        · go_ret
          exact ⟨by rw [shortB_48 d hpos (by assumption)]; simp [h2], bref _⟩
        · go_ret
          exact ⟨by rw [shortB_ne d hpos (by assumption)]; rfl, bref _⟩
      · have h3 : ((d.size : Int) == 1) = false := by rw [beq_eq_false_iff_ne]; omega
        go_enter Tryd.func71, Tryd.ntmps71
        go_wp2_with fail
        · go_ret
          exact ⟨by rw [shortB_48 d hpos (by assumption)]; simp [h2], bref _⟩
        · go_ret
          exact ⟨by rw [shortB_ne d hpos (by assumption)]; rfl, bref _⟩

set_option maxHeartbeats 2000000 in
/-- Parse. -/
theorem parse_any (s : ByteArray) (hs : s.size ≤ 1000000) (w : World) :
    Calls Tryd.prog 35 #[.string s] w fun e w' =>
      e = .returned (.tuple #[.agg #[.int .i64 (wH (pV s.data.toList)), .int .u64 (wL (pV s.data.toList))], .int .i64 (pE s.data.toList)]) ∧ Below w.heap.size w w' := by
  have C := Tryd.strings_CutPrefix s ⟨#[45]⟩
  obtain ⟨D, hD⟩ : ∃ D : ByteArray, (⟨(Lib.trimPrefix s.data.toList [45]).toArray⟩ : ByteArray) = D := ⟨_, rfl⟩
  obtain ⟨B, hB⟩ : ∃ B : Bool, Lib.hasPrefix s.data.toList [45] = B := ⟨_, rfl⟩
  have hDl : digs s.data.toList = D.data.toList := by rw [← hD]; rfl
  have hDs : D.size ≤ 1000000 := by
    have h1 := digs_length s.data.toList
    rw [hDl, Array.length_toList, Array.length_toList] at h1
    exact Nat.le_trans h1 hs
  have hN : isNeg s.data.toList = B := hB
  simp only [hD, hB] at C
  have C := Lib.hid C
  have S := Lib.hid (shortest_any D hDs B)
  have R := Lib.hid (read_any D hDs)
  cases h1 : shortB D.data.toList B
  · obtain ⟨e1, e2⟩ := p_short s.data.toList (by rw [hDl, hN]; exact h1)
    have E1 := Lib.hid e1; have E2 := Lib.hid e2
    have S' := S.out
    rw [h1] at S'
    have S' := Lib.hid S'
    clear e1 e2 S hN hDl hB hD h1
    go_enter Tryd.func35, Tryd.ntmps35
    have R0 := Own.new w (.int .i64 0) (.int .u64 0) 24
    go_wp2_with fail
    refine (C.out _).mono ?_
    rintro e w1 ⟨rfl, hw⟩
    obtain rfl := hw.symm
    go_wp2_with fail
    refine (S'.out _).mono ?_
    rintro e w2 ⟨rfl, hb2⟩
    have R2 := R0.keep hb2
    have B2 := btr (bal (bref w) _) hb2
    clear R0 hb2
    obtain ⟨r0, r1, r2, r3⟩ := R2
    go_wp2_with fail
    refine bodyPost_ret (v := .tuple #[.agg #[.int .i64 0, .int .u64 0], .int .i64 2]) (by simp [results, Tryd.results35, go_sem, r0, r1]) rfl ⟨by rw [E1.out, E2.out, w_zero.1, w_zero.2], bset (bset B2 (by simp) _) (by simp) _⟩
  · have S' := S.out
    rw [h1] at S'
    have S' := Lib.hid S'
    by_cases h2 : rdErr D.data.toList = 0
    · obtain ⟨e1, e2⟩ := p_ok s.data.toList (by rw [hDl, hN]; exact h1) (by rw [hDl]; exact h2)
      rw [hDl, hN] at e1 e2
      have E1 := Lib.hid e1; have E2 := Lib.hid e2
      obtain ⟨v0, v1⟩ := rdVal_bd D.data.toList
      have R' := R.out
      rw [h2] at R'
      have R' := Lib.hid R'
      have J := fun W => join_any (mH (rdVal D.data.toList)) (mL (rdVal D.data.toList)) B (mH_U64 v0 v1) (mL_U64 _) W
      simp only [val_mag] at J
      have J := Lib.hid J
      clear e1 e2 S R hN hDl hB hD h1 h2
      go_enter Tryd.func35, Tryd.ntmps35
      have R0 := Own.new w (.int .i64 0) (.int .u64 0) 24
      go_wp2_with fail
      refine (C.out _).mono ?_
      rintro e w1 ⟨rfl, hw⟩
      obtain rfl := hw.symm
      go_wp2_with fail
      refine (S'.out _).mono ?_
      rintro e w2 ⟨rfl, hb2⟩
      have R2 := R0.keep hb2
      have B2 := btr (bal (bref w) _) hb2
      clear R0 hb2
      go_wp2_with fail
      refine (R'.out _).mono ?_
      rintro e w3 ⟨rfl, hb3⟩
      have R3 := R2.keep hb3
      have B3 := btr B2 hb3
      have s3 := R3.lt
      clear R2 B2 hb3
      have R3' := R3.al (.cells #[.int .u64 (mH (rdVal D.data.toList)), .int .u64 (mL (rdVal D.data.toList))] 67)
      go_wp2_with fail
      refine (J.out _).mono ?_
      rintro e w4 ⟨rfl, hb4⟩
      have R4 := R3'.keep hb4
      have B4 := btr (bal B3 _) hb4
      have s4 := R4.lt
      clear R3 R3' B3 hb4
      obtain ⟨r0, r1, r2, r3⟩ := R4
      go_wp2_with fail
      refine bodyPost_ret (v := .tuple #[.agg #[.int .i64 (wH (signed B (rdVal D.data.toList))), .int .u64 (wL (signed B (rdVal D.data.toList)))], .int .i64 (wE (signed B (rdVal D.data.toList)))]) (by simp [results, Tryd.results35, go_sem, r0, r1]) rfl ⟨by rw [E1.out, E2.out], bset (bset B4 (by simp) _) (by simp) _⟩
    · obtain ⟨e1, e2⟩ := p_read s.data.toList (by rw [hDl, hN]; exact h1) (by rw [hDl]; exact h2)
      rw [hDl] at e1
      have E1 := Lib.hid e1; have E2 := Lib.hid e2
      have R' := R
      obtain ⟨X, hX⟩ : ∃ X, rdErr D.data.toList = X := ⟨_, rfl⟩
      have R' := R.out
      rw [hX] at R'
      have R' := Lib.hid R'
      have hx : (X == 0) = false := by rw [beq_eq_false_iff_ne, ← hX]; exact h2
      have HX := Lib.hid hX
      clear e1 e2 S R hN hDl hB hD h1 h2 hX
      go_enter Tryd.func35, Tryd.ntmps35
      have R0 := Own.new w (.int .i64 0) (.int .u64 0) 24
      go_wp2_with fail
      refine (C.out _).mono ?_
      rintro e w1 ⟨rfl, hw⟩
      obtain rfl := hw.symm
      go_wp2_with fail
      refine (S'.out _).mono ?_
      rintro e w2 ⟨rfl, hb2⟩
      have R2 := R0.keep hb2
      have B2 := btr (bal (bref w) _) hb2
      clear R0 hb2
      go_wp2_with fail
      refine (R'.out _).mono ?_
      rintro e w3 ⟨rfl, hb3⟩
      have R3 := R2.keep hb3
      have B3 := btr B2 hb3
      have s3 := R3.lt
      clear R2 B2 hb3
      obtain ⟨r0, r1, r2, r3⟩ := R3
      go_wp2_with fail
      refine bodyPost_ret (v := .tuple #[.agg #[.int .i64 0, .int .u64 0], .int .i64 X]) (by simp [results, Tryd.results35, go_sem, r0, r1, s3]) rfl ⟨by rw [E1.out, E2.out, w_zero.1, w_zero.2, HX.out], by repeat (first | exact B3 | refine bal ?_ _ | refine bset ?_ (by simp; done) _)⟩
end Go.Proofs.YtfapcllhcbedlaaDoor
