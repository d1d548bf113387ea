/-
  The chapter's examples: plain, and the law's live.
-/
import Derived.Test.YtlgplhekiemeoaaDoorWK
import Derived.Test.YtlgplhekiemeoaaDoorWL
import Derived.KernelRfl
namespace Go.Proofs.YtlgplhekiemeoaaDoor
open Go Go.RowKit Go.Lib WM

def S1 : ByteArray := ⟨#[50, 58, 97, 98, 48, 58, 51, 58, 99, 58, 100]⟩
def L1 : List ByteArray := [⟨#[97, 98]⟩, ⟨#[]⟩, ⟨#[99, 58, 100]⟩]
theorem enc_ex : encL L1 = [50, 58, 97, 98, 48, 58, 51, 58, 99, 58, 100] := by decide +kernel
theorem unp_ex1 : unp (byt S1) = (0, L1) := by
  have h := unp_enc L1 (by decide)
  rw [enc_ex] at h
  exact h
theorem unp_ex2 : unp (byt ⟨#[51, 58, 97, 98]⟩) = (24, []) := by
  have h : cutE (byt ⟨#[51, 58, 97, 98]⟩) = 24 := by decide +kernel
  rw [unp_bad (by decide) (by rw [h]; decide), h]
theorem unp_ex3 : unp (byt ⟨#[48, 50, 58, 97, 98]⟩) = (2, []) := by
  have h : cutE (byt ⟨#[48, 50, 58, 97, 98]⟩) = 2 := by decide +kernel
  rw [unp_bad (by decide) (by rw [h]; decide), h]
theorem ti_ex : tiE (byt ⟨#[45, 57, 50, 50, 51, 51, 55, 50, 48, 51, 54, 56, 53, 52, 55, 55, 53, 56, 48, 56]⟩) = 0 ∧ tiV (byt ⟨#[45, 57, 50, 50, 51, 51, 55, 50, 48, 51, 54, 56, 53, 52, 55, 55, 53, 56, 48, 56]⟩) = -9223372036854775808 := by decide +kernel
theorem unp_ex4 : unp (byt ⟨#[49, 58, 55, 49, 58, 56]⟩) = (0, [⟨#[55]⟩, ⟨#[56]⟩]) := by
  have e : encL [⟨#[55]⟩, ⟨#[56]⟩] = [49, 58, 55, 49, 58, 56] := by decide +kernel
  have h := unp_enc [⟨#[55]⟩, ⟨#[56]⟩] (by decide)
  rw [e] at h
  exact h
theorem tk_ex : tkE (byt ⟨#[49, 58, 55, 49, 58, 56]⟩) 1 = 5 ∧ tkV (byt ⟨#[49, 58, 55, 49, 58, 56]⟩) 1 = [] := by
  have h := tk_many (l := byt ⟨#[49, 58, 55, 49, 58, 56]⟩) (m := 1) (by rw [unp_ex4]) (by rw [unp_ex4]; decide)
  exact h
theorem ints_ex : str (encI [7, -8]) = ⟨#[49, 58, 55, 50, 58, 45, 56]⟩ := by
  have h : encI [7, -8] = [49, 58, 55, 50, 58, 45, 56] := by decide +kernel
  rw [h]; rfl
theorem int_ex : str (itoa 0) = ⟨#[48]⟩ := by
  have h : itoa 0 = [48] := by decide +kernel
  rw [h]; rfl
theorem size_ex : sizeL L1 ≤ 100000 := by decide

set_option maxRecDepth 100000 in
set_option maxHeartbeats 16000000 in
theorem live_any (w : World) (hT : Tb w) (hE : Er w) :
    Calls Tryd.prog 10 #[] w fun e w' => e = .returned (.bool true) ∧ Below w.heap.size w w' := by
  have C1 : Hid (∀ W, Er W → Calls Tryd.prog 13 #[.string S1] W (GotT (0, L1) W)) := Lib.hid (fun W h => by have := munpack S1 (by decide) W h; rwa [unp_ex1] at this)
  have C2 : Hid (∀ W, Er W → Calls Tryd.prog 13 #[.string ⟨#[51, 58, 97, 98]⟩] W (GotT (24, []) W)) := Lib.hid (fun W h => by have := munpack ⟨#[51, 58, 97, 98]⟩ (by decide) W h; rwa [unp_ex2] at this)
  have C3 : Hid (∀ W, Er W → Calls Tryd.prog 13 #[.string ⟨#[48, 50, 58, 97, 98]⟩] W (GotT (2, []) W)) := Lib.hid (fun W h => by have := munpack ⟨#[48, 50, 58, 97, 98]⟩ (by decide) W h; rwa [unp_ex3] at this)
  have C4 : Hid (∀ W, Er W → Calls Tryd.prog 16 #[.string ⟨#[45, 57, 50, 50, 51, 51, 55, 50, 48, 51, 54, 56, 53, 52, 55, 55, 53, 56, 48, 56]⟩] W fun e w' => e = .returned (.tuple #[.int .i64 (-9223372036854775808), .int .i64 0]) ∧ Below W.heap.size W w') := Lib.hid (fun W h => by
    have := mtake ⟨#[45, 57, 50, 50, 51, 51, 55, 50, 48, 51, 54, 56, 53, 52, 55, 55, 53, 56, 48, 56]⟩ (by decide) W h
    have e1 := ti_ex.1
    have e2 := ti_ex.2
    unfold byt at e1 e2
    rwa [e1, e2] at this)
  have C5 : Hid (∀ W, Er W → Calls Tryd.prog 20 #[.string ⟨#[49, 58, 55, 49, 58, 56]⟩, .int .i64 1] W (GotI 5 [] W)) := Lib.hid (fun W h => by have := mtakeints ⟨#[49, 58, 55, 49, 58, 56]⟩ 1 (by decide) (by unfold I64; omega) W h; rwa [tk_ex.1, tk_ex.2] at this)
  have C6 : Hid (∀ ao c b W, TextsAt ao L1 W → TextsAt (some ⟨b, 0, none⟩) L1 W → Calls Tryd.prog 15 #[.slice ao 3 c, .slice (some ⟨b, 0, none⟩) 3 3] W fun e w' => e = .returned (.bool true) ∧ Below W.heap.size W w') := Lib.hid (fun ao c b W h1 h2 => by
    have := rsameT ao (some ⟨b, 0, none⟩) L1 L1 c 3 (by decide) (by decide) W h1 h2
    rwa [decide_eq_true (show L1 = L1 from rfl)] at this)
  have C7 : Hid (∀ ao c W, Tb W → TextsAt ao L1 W → Calls Tryd.prog 11 #[.slice ao 3 c] W fun e w' => e = .returned (.string ⟨#[50, 58, 97, 98, 48, 58, 51, 58, 99, 58, 100]⟩) ∧ Below W.heap.size W w') := Lib.hid (fun ao c W h1 h2 => by
    have := mpack ao L1 c size_ex W h1 h2
    rw [enc_ex] at this
    exact this)
  have C8 : Hid (∀ b W, Tb W → IntsAt (some ⟨b, 0, none⟩) [7, -8] W → Calls Tryd.prog 22 #[.slice (some ⟨b, 0, none⟩) 2 2] W fun e w' => e = .returned (.string ⟨#[49, 58, 55, 50, 58, 45, 56]⟩) ∧ Below W.heap.size W w') := Lib.hid (fun b W h1 h2 => by
    have := mints (some ⟨b, 0, none⟩) [7, -8] 2 (by decide) (by intro n hn; simp at hn; unfold I64; omega) W h1 h2
    rw [ints_ex] at this
    exact this)
  have C9 : Hid (∀ W, Tb W → Calls Tryd.prog 18 #[.int .i64 0] W fun e w' => e = .returned (.string ⟨#[48]⟩) ∧ Below W.heap.size W w') := Lib.hid (fun W h => by
    have := mint 0 (by unfold I64; omega) W h
    rw [int_ex] at this
    exact this)
  have HT := Lib.hid hT
  have HE := Lib.hid hE
  clear hT hE
  go_enter Tryd.func10, Tryd.ntmps10
  go_wp2_with fail
  refine (C1.out _ HE.out).mono ?_
  rintro e w1 ⟨ao, c, rfl, hT1, q1⟩
  have HL := Lib.hid hT1
  have B1 := Lib.hid q1
  clear hT1 q1
  go_wp2_with fail
  refine (C2.out _ (HE.out.keep B1.out)).mono ?_
  rintro e w2 ⟨ao2, c2, rfl, _, q2⟩
  have B2 := Lib.hid (btr B1.out q2)
  have HL2 := Lib.hid (HL.out.keep q2)
  clear q2
  go_wp2_with fail
  refine (C3.out _ (HE.out.keep B2.out)).mono ?_
  rintro e w3 ⟨ao3, c3, rfl, _, q3⟩
  have B3 := Lib.hid (btr B2.out q3)
  have HL3 := Lib.hid (HL2.out.keep q3)
  clear q3
  go_wp2_with fail
  refine (C4.out _ (HE.out.keep B3.out)).mono ?_
  rintro e w4 ⟨rfl, q4⟩
  have B4 := Lib.hid (btr B3.out q4)
  have HL4 := Lib.hid (HL3.out.keep q4)
  clear q4
  go_wp2_with fail
  refine (C5.out _ (HE.out.keep B4.out)).mono ?_
  rintro e w5 ⟨ao5, c5, rfl, _, q5⟩
  have B5 := Lib.hid (btr B4.out q5)
  have HL5 := Lib.hid (HL4.out.keep q5)
  clear q5
  go_wp2_with fail
  have hA : TextsAt (some ⟨w5.heap.size, 0, none⟩) L1 (w5.alloc (.cells #[.string ⟨#[97, 98]⟩, .string ⟨#[]⟩, .string ⟨#[99, 58, 100]⟩] 9)) := by
    intro i hi
    have hi3 : i < 3 := hi
    refine ⟨w5.heap.size, 0, rfl, by simp, ?_⟩
    match i, hi3 with
    | 0, _ => simp [go_sem]; rfl
    | 1, _ => simp [go_sem]; rfl
    | 2, _ => simp [go_sem]; rfl
  have qa := bal (bref w5) (.cells #[.string ⟨#[97, 98]⟩, .string ⟨#[]⟩, .string ⟨#[99, 58, 100]⟩] 9)
  refine (C6.out ao c _ _ (HL5.out.keep qa) hA).mono ?_
  rintro e w6 ⟨rfl, q6⟩
  have B6 := Lib.hid (btr (btr B5.out qa) q6)
  have HL6 := Lib.hid ((HL5.out.keep qa).keep q6)
  clear hA qa q6
  go_wp2_with fail
  refine (C7.out ao c _ (HT.out.keep B6.out) HL6.out).mono ?_
  rintro e w7 ⟨rfl, q7⟩
  have B7 := Lib.hid (btr B6.out q7)
  clear q7
  go_wp2_with fail
  have hI : IntsAt (some ⟨w7.heap.size, 0, none⟩) [7, -8] (w7.alloc (.cells #[.int .i64 7, .int .i64 (-8)] 3)) := by
    intro i hi
    have hi2 : i < 2 := hi
    refine ⟨w7.heap.size, 0, rfl, by simp, ?_⟩
    match i, hi2 with
    | 0, _ => simp [go_sem]
    | 1, _ => simp [go_sem]
  have qb := bal (bref w7) (.cells #[.int .i64 7, .int .i64 (-8)] 3)
  refine (C8.out _ _ (HT.out.keep (btr B7.out qb)) hI).mono ?_
  rintro e w8 ⟨rfl, q8⟩
  have B8 := Lib.hid (btr (btr B7.out qb) q8)
  clear hI qb q8
  go_wp2_with fail
  refine (C9.out _ (HT.out.keep B8.out)).mono ?_
  rintro e w9 ⟨rfl, q9⟩
  have B9 := Lib.hid (btr B8.out q9)
  clear q9
  go_wp2_with fail
  go_ret
  exact ⟨rfl, B9.out⟩
end Go.Proofs.YtlgplhekiemeoaaDoor
