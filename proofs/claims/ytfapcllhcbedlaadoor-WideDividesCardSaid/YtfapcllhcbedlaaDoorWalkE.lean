/-
  Contracts of package wide's text and Text.
-/
import Derived.Test.YtfapcllhcbedlaaDoorWalkD
import Derived.Test.YtfapcllhcbedlaaDoorFmt
import Derived.Test.YtfapcllhcbedlaaDoorMathE
namespace Go.Proofs.YtfapcllhcbedlaaDoor
open Go Go.RowKit Go.Lib WM

def str (l : List UInt8) : ByteArray := ⟨l.toArray⟩
theorem str_size (l : List UInt8) : (str l).size = l.length := by simp [str, ByteArray.size]

theorem rep_size (n : Nat) : (⟨(List.replicate n 48).toArray⟩ : ByteArray).size = n := by simp [ByteArray.size]
theorem str_app (a b : List UInt8) : str a ++ str b = str (a ++ b) := by
  apply ByteArray.ext
  simp [str]
theorem text_join (v q r : Nat) (hv : 10000000000000000000 ≤ v) (hq : v / 10000000000000000000 = q) (hr : v % 10000000000000000000 = r) (n : Nat) (hn : n = nDigits r) :
    str (decDigits q) ++ (⟨(List.replicate (19 - n) 48).toArray⟩ : ByteArray) ++ str (decDigits r) = str (decDigits v) := by
  subst hn hq hr
  rw [digits_19 v hv, ← str_app, ← str_app]
  rfl

set_option maxHeartbeats 2000000 in
theorem text_ind (k : Nat) : ∀ (h l : Int) (w : World), U64 h → U64 l → val h l < 18446744073709551616 * 10000000000000000000 ^ k → Tb w →
    Calls Tryd.prog 74 #[.agg #[.int .u64 h, .int .u64 l]] w fun e w' => e = .returned (.string (str (decDigits (val h l).toNat))) ∧ Below w.heap.size w w' := by
  induction k with
  | zero =>
    intro h l w hh hl hv ht
    have h0 : h = 0 := by unfold val U64 at *; simp at hv; omega
    subst h0
    have ht1 : Tb (w.alloc (.cells #[.int .u64 0, .int .u64 l] 67)) := ht.keep (bal (bref _) _)
    go_enter Tryd.func74, Tryd.ntmps74
    go_wp2_with fail
    refine (fmt_any l hl _ ht1).mono ?_
    rintro e w1 ⟨rfl, hb⟩
    go_wp2_with fail
    go_ret
    have e0 : val 0 l = l := by unfold val; omega
    exact ⟨by rw [e0]; rfl, btr (bal (bref _) _) hb⟩
  | succ k ih =>
    intro h l w hh hl hv ht
    by_cases h0 : h = 0
    · subst h0
      have ht1 : Tb (w.alloc (.cells #[.int .u64 0, .int .u64 l] 67)) := ht.keep (bal (bref _) _)
      go_enter Tryd.func74, Tryd.ntmps74
      go_wp2_with fail
      refine (fmt_any l hl _ ht1).mono ?_
      rintro e w1 ⟨rfl, hb⟩
      go_wp2_with fail
      go_ret
      have e0 : val 0 l = l := by unfold val; omega
      exact ⟨by rw [e0]; rfl, btr (bal (bref _) _) hb⟩
    · have hz : (h == 0) = false := by rw [beq_eq_false_iff_ne]; exact h0
      have hv0 : 0 ≤ val h l := by unfold val U64 at *; omega
      have hbig : 18446744073709551616 ≤ val h l := by unfold val U64 at *; omega
      obtain ⟨q, hq⟩ : ∃ q, val h l / 10000000000000000000 = q := ⟨_, rfl⟩
      obtain ⟨r, hr⟩ : ∃ r, val h l % 10000000000000000000 = r := ⟨_, rfl⟩
      have hmax : val h l < 340282366920938463463374607431768211456 := by unfold val U64 at *; omega
      have hq0 : 0 ≤ q ∧ q < 340282366920938463463374607431768211456 := by omega
      have hr0 : 0 ≤ r ∧ r < 10000000000000000000 := by omega
      have hqk : q < 18446744073709551616 * 10000000000000000000 ^ k := by
        rw [← hq]
        apply Int.ediv_lt_of_lt_mul (by decide)
        rw [Int.mul_assoc, ← Int.pow_succ]
        exact hv
      have D := fun W => divide_any h l 10000000000000000000 hh hl (by decide) (by unfold U64; omega) W
      simp only [hq, hr] at D
      have D := Lib.hid D
      have IH := fun W hT => ih (mH q) (mL q) W (mH_U64 hq0.1 hq0.2) (mL_U64 q) (by rw [val_mag]; exact hqk) hT
      simp only [val_mag] at IH
      obtain ⟨A, hA⟩ : ∃ A, str (decDigits q.toNat) = A := ⟨_, rfl⟩
      simp only [hA] at IH
      have hAs : A.size ≤ 39 := by rw [← hA, str_size, decDigits_length]; exact nDigits_le39 _ (by omega)
      have IH := Lib.hid IH
      obtain ⟨S, hS⟩ : ∃ S, str (decDigits r.toNat) = S := ⟨_, rfl⟩
      obtain ⟨n1, n2⟩ := nDigits_le19 r.toNat (by omega)
      have hSs : S.size = nDigits r.toNat := by rw [← hS, str_size, decDigits_length]
      have hS1 : 1 ≤ S.size := by rw [hSs]; exact n1
      have hS2 : S.size ≤ 19 := by rw [hSs]; exact n2
      have F := fun W hT => fmt_any r (by unfold U64; omega) W hT
      have FS : Hid ((⟨(decDigits r.toNat).toArray⟩ : ByteArray) = S) := Lib.hid hS
      simp only [FS.out] at F
      have F := Lib.hid F
      have RP := fun W => Tryd.strings_Repeat ⟨#[48]⟩ (19 - S.size) W (by omega) (by rw [show (⟨#[48]⟩ : ByteArray).size = 1 from rfl]; omega)
      simp only [repeat_one] at RP
      obtain ⟨Z, hZ⟩ : ∃ Z, (⟨(List.replicate (19 - S.size) 48).toArray⟩ : ByteArray) = Z := ⟨_, rfl⟩
      have hZs : Z.size ≤ 19 := by rw [← hZ, rep_size]; omega
      simp only [hZ] at RP
      have RP := Lib.hid RP
      have HZ := Lib.hid hZ; have HA := Lib.hid hA
      have HS := Lib.hid hS; have HQ := Lib.hid hq; have HR := Lib.hid hr; have HSS := Lib.hid hSs
      clear ih hS hq hr hSs n1 n2 hv hqk hZ hA
      go_enter Tryd.func74, Tryd.ntmps74
      go_wp2_with fail
      refine (D.out _).mono ?_
      rintro e w1 ⟨rfl, hb1⟩
      have B1 := btr (bal (bref w) _) hb1
      have M1 := Own.new w1 (.int .u64 (mH q)) (.int .u64 (mL q)) 67
      have T1 : Tb (w1.alloc (.cells #[.int .u64 (mH q), .int .u64 (mL q)] 67)) := ht.keep (bal B1 _)
      go_wp2_with fail
      refine (F.out _ T1).mono ?_
      rintro e w2 ⟨rfl, hb2⟩
      have M2 := M1.keep hb2
      have B2 := btr (bal B1 _) hb2
      have T2 : Tb w2 := ht.keep B2
      clear M1 T1 B1 hb1 hb2
      obtain ⟨m0, m1, _, _⟩ := M2
      go_wp2_with fail
      refine (IH.out _ T2).mono ?_
      rintro e w3 ⟨rfl, hb3⟩
      have B3 := btr B2 hb3
      clear hb3 B2 T2 m0 m1
      go_wp2_with fail
      rw [show (19 - (S.size : Int)) = ((19 - S.size : Nat) : Int) by omega]
      refine (RP.out _).mono ?_
      rintro e w4 ⟨rfl, hb4⟩
      have B4 := btr B3 hb4
      go_wp2_with fail
      go_ret
      refine ⟨?_, B4⟩
      show Ending.returned (.string (A ++ Z ++ S)) = _
      have J := text_join (val h l).toNat q.toNat r.toNat (by omega) (by have := HQ.out; omega) (by have := HR.out; omega) S.size HSS.out
      rw [HZ.out, HS.out, HA.out] at J
      rw [J]

theorem mtext_any (h l : Int) (hh : U64 h) (hl : U64 l) (w : World) (ht : Tb w) :
    Calls Tryd.prog 74 #[.agg #[.int .u64 h, .int .u64 l]] w fun e w' => e = .returned (.string (str (decDigits (val h l).toNat))) ∧ Below w.heap.size w w' :=
  text_ind 2 h l w hh hl (by
    have e : (18446744073709551616 * 10000000000000000000 ^ 2 : Int) = 1844674407370955161600000000000000000000000000000000000000 := by decide
    rw [e]; unfold val U64 at *; omega) ht

/-- Text: the decimal form. -/
theorem text_any (h l : Int) (hh : I64 h) (hl : U64 l) (w : World) (ht : Tb w) :
    Calls Tryd.prog 37 #[.agg #[.int .i64 h, .int .u64 l]] w fun e w' => e = .returned (.string (str (itoa (val h l)))) ∧ Below w.heap.size w w' := by
  obtain ⟨u1, u2⟩ := absW_halves hh hl
  obtain ⟨b0, b1⟩ := absW_U hh hl
  have M := fun W hT => mtext_any (mH (absW (val h l))) (mL (absW (val h l))) u1 u2 W hT
  simp only [val_mag] at M
  obtain ⟨A, hA⟩ : ∃ A, str (decDigits (absW (val h l)).toNat) = A := ⟨_, rfl⟩
  have hAs : A.size ≤ 39 := by rw [← hA, str_size, decDigits_length]; exact nDigits_le39 _ (by omega)
  simp only [hA] at M
  have M := Lib.hid M
  have HA := Lib.hid hA
  clear hA b0 b1
  by_cases c1 : h < 0
  · have hd : decide (h < 0) = true := by simpa using c1
    have HE : Hid ((⟨#[45]⟩ : ByteArray) ++ A = str (itoa (val h l))) := Lib.hid (by
      have hv := (neg_h hl).1 c1
      have e1 : itoa (val h l) = 45 :: decDigits (absW (val h l)).toNat := by
        unfold itoa absW
        rw [if_pos hv, if_pos hv, show (val h l).natAbs = (-(val h l)).toNat by omega]
      rw [e1, ← HA.out]
      exact str_app [45] _)
    go_enter Tryd.func37, Tryd.ntmps37
    go_wp2_with fail
    refine (split_any h l hh hl _).mono ?_
    rw [hd]
    rintro e w1 ⟨rfl, hb1⟩
    have B1 := btr (bal (bref w) _) hb1
    have T1 : Tb (w1.alloc (.cells #[.int .u64 (mH (absW (val h l))), .int .u64 (mL (absW (val h l)))] 67)) := ht.keep (bal B1 _)
    go_wp2_with fail
    refine (M.out _ T1).mono ?_
    rintro e w2 ⟨rfl, hb2⟩
    have B2 := btr (bal B1 _) hb2
    go_wp2_with fail
    go_ret
    exact ⟨by rw [← HE.out]; rfl, B2⟩
  · have hd : decide (h < 0) = false := by simpa using c1
    have HE : Hid (A = str (itoa (val h l))) := Lib.hid (by
      have hv : ¬ val h l < 0 := by have := neg_h (h := h) hl; omega
      have e1 : itoa (val h l) = decDigits (absW (val h l)).toNat := by
        unfold itoa absW
        rw [if_neg hv, if_neg hv]
      rw [e1, ← HA.out])
    go_enter Tryd.func37, Tryd.ntmps37
    go_wp2_with fail
    refine (split_any h l hh hl _).mono ?_
    rw [hd]
    rintro e w1 ⟨rfl, hb1⟩
    have B1 := btr (bal (bref w) _) hb1
    have T1 : Tb (w1.alloc (.cells #[.int .u64 (mH (absW (val h l))), .int .u64 (mL (absW (val h l)))] 67)) := ht.keep (bal B1 _)
    go_wp2_with fail
    refine (M.out _ T1).mono ?_
    rintro e w2 ⟨rfl, hb2⟩
    have B2 := btr (bal B1 _) hb2
    go_wp2_with fail
    go_ret
    exact ⟨by rw [← HE.out]; rfl, B2⟩
end Go.Proofs.YtfapcllhcbedlaaDoor
