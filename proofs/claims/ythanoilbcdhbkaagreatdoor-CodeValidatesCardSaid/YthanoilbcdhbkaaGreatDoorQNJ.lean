/-
  The document's Validate, Depth, Digits.
-/
import Derived.Test.YthanoilbcdhbkaaGreatDoorQNI
namespace Go.Proofs.YthanoilbcdhbkaaGreatDoor
open Go Go.RowKit Go.Lib Go.Shelf WM TM EM YM

set_option maxRecDepth 100000 in
theorem rValidateC (cd : Cd) (vo io : Option Addr) (vc ic : Nat) (w : World) (h : CodeAt cd vo vc io ic w) :
  Calls Tryz.prog 17 #[.agg #[.int .i64 cd.t, .slice vo cd.vs.length vc, .slice io cd.c.length ic]] w fun r w' => r = .returned (.int .i64 (runC cd.t cd.vs cd.c).2) ∧ Below w.heap.size w w' := by
 have C := Lib.hid (fun W (hW : Below w.heap.size w W) => rrun cd vo io vc ic W (h.keep hW))
 obtain ⟨q1, hq1⟩ : ∃ q, (runC cd.t cd.vs cd.c).1 = q := ⟨_, rfl⟩
 obtain ⟨q2, hq2⟩ : ∃ q, (runC cd.t cd.vs cd.c).2 = q := ⟨_, rfl⟩
 rw [hq1, hq2] at C
 rw [hq2]
 obtain ⟨t, ht⟩ : ∃ t, cd.t = t := ⟨_, rfl⟩
 obtain ⟨vn, hvn⟩ : ∃ n, cd.vs.length = n := ⟨_, rfl⟩
 obtain ⟨n, hn⟩ : ∃ n, cd.c.length = n := ⟨_, rfl⟩
 rw [ht, hvn, hn] at C ⊢
 have HB0 := Lib.hid (show Below w.heap.size w (w.alloc (.cells #[.int .i64 t, .slice vo vn vc, .slice io n ic] 30)) from bal (bref w) _)
 clear h hq1 hq2 ht hvn hn
 go_enter Tryz.func17, Tryz.ntmps17
 go_wp2_with fail
 refine (C.out _ HB0.out).mono ?_
 rintro r w1 ⟨rfl, hb1⟩
 have HB1 := Lib.hid (btr HB0.out hb1)
 clear hb1
 go_wp2_with fail
 go_ret
 exact ⟨rfl, HB1.out⟩
set_option maxRecDepth 100000 in
theorem rDepthC (cd : Cd) (vo io : Option Addr) (vc ic : Nat) (w : World) (h : CodeAt cd vo vc io ic w) :
  Calls Tryz.prog 19 #[.agg #[.int .i64 cd.t, .slice vo cd.vs.length vc, .slice io cd.c.length ic]] w fun r w' => r = .returned (.int .i64 (runC cd.t cd.vs cd.c).1) ∧ Below w.heap.size w w' := by
 have C := Lib.hid (fun W (hW : Below w.heap.size w W) => rrun cd vo io vc ic W (h.keep hW))
 obtain ⟨q1, hq1⟩ : ∃ q, (runC cd.t cd.vs cd.c).1 = q := ⟨_, rfl⟩
 obtain ⟨q2, hq2⟩ : ∃ q, (runC cd.t cd.vs cd.c).2 = q := ⟨_, rfl⟩
 rw [hq1, hq2] at C
 rw [hq1]
 obtain ⟨t, ht⟩ : ∃ t, cd.t = t := ⟨_, rfl⟩
 obtain ⟨vn, hvn⟩ : ∃ n, cd.vs.length = n := ⟨_, rfl⟩
 obtain ⟨n, hn⟩ : ∃ n, cd.c.length = n := ⟨_, rfl⟩
 rw [ht, hvn, hn] at C ⊢
 have HB0 := Lib.hid (show Below w.heap.size w (w.alloc (.cells #[.int .i64 t, .slice vo vn vc, .slice io n ic] 30)) from bal (bref w) _)
 clear h hq1 hq2 ht hvn hn
 go_enter Tryz.func19, Tryz.ntmps19
 go_wp2_with fail
 refine (C.out _ HB0.out).mono ?_
 rintro r w1 ⟨rfl, hb1⟩
 have HB1 := Lib.hid (btr HB0.out hb1)
 clear hb1
 go_wp2_with fail
 go_ret
 exact ⟨rfl, HB1.out⟩
/-! ### Digits -/
def DigAt (M m : Nat) (s : List UInt8) : Prop := decDigits m ++ s = decDigits M
theorem dig_step {M m : Nat} {s : List UInt8} (h : DigAt M m s) (hm : ¬ m < 10) : DigAt M (m / 10) (UInt8.ofNat (48 + m % 10) :: s) := by
 unfold DigAt at *
 rw [decDigits, dif_neg hm] at h
 rw [← h, List.append_assoc]; rfl
set_option maxRecDepth 100000 in
set_option maxHeartbeats 2000000 in
theorem rDigits (M : Nat) (hM : M ≤ 9223372036854775807) (w : World) :
  Calls Tryz.prog 40 #[.int .i64 M] w fun e w' => e = .returned (.string (str (decDigits M))) ∧ w = w' := by
 have HDL := Lib.hid (show nDigits M ≤ 20 from nDigits_20 M (by omega))
 go_enter Tryz.func40, Tryz.ntmps40
 go_wp2
 go_loop [0, 3] (fun n x => ∃ (m : Nat) (s : List UInt8), n = .int .i64 m ∧ x = .string (str s) ∧ m ≤ 9223372036854775807 ∧ DigAt M m s) (fun n _ => (RowKit.intOf n).toNat)
 case atStart => exact ⟨M, [], rfl, rfl, hM, List.append_nil _⟩
 case round =>
  obtain ⟨m, s, rfl, rfl, hm, hD⟩ := hrel
  have hsl : s.length ≤ 20 := by
   have h1 := congrArg List.length hD
   rw [List.length_append, decDigits_length, decDigits_length] at h1
   have := HDL.out
   omega
  have hsz : (str s).size ≤ 20 := by rw [str_size]; exact hsl
  obtain ⟨S, hS⟩ : ∃ S, str s = S := ⟨_, rfl⟩
  rw [hS] at hsz
  simp only [hS]
  have HS := Lib.hid hS; have HD := Lib.hid hD
  clear hS hD hsl
  by_cases h9 : 9 < m
  ·have h9z : (9 : Int) < (m : Int) := by omega
   have em : (m : Int).tmod 10 = (m : Int) % 10 := Int.tmod_eq_emod_of_nonneg (by omega)
   have eq : (m : Int).tdiv 10 = (m : Int) / 10 := Int.tdiv_eq_ediv_of_nonneg (by omega)
   obtain ⟨r, hr⟩ : ∃ r : Nat, (m : Int).tmod 10 = (r : Int) := ⟨m % 10, by omega⟩
   obtain ⟨q, hq⟩ : ∃ q : Nat, (m : Int).tdiv 10 = (q : Int) := ⟨m / 10, by omega⟩
   have hr9 : r < 10 := by omega
   have hrz : (r : Int) + 1 ≤ 10 := by omega
   have hqz : (q : Int) ≤ 9223372036854775807 := by omega
   have hwq : wrap64 (q : Int) = (q : Int) := by unfold wrap64; omega
   have HR := Lib.hid (show r = m % 10 by omega); have HQ := Lib.hid (show q = m / 10 by omega)
   have hcs : ((⟨#[48, 49, 50, 51, 52, 53, 54, 55, 56, 57]⟩ : ByteArray).extract r (r + 1)).size ≤ 1 := by rw [ByteArray.size_extract]; omega
   clear em eq
   go_wp2_with fail
   go_round
   case rel =>
    refine ⟨q, UInt8.ofNat (48 + m % 10) :: s, rfl, ?_, by omega, by rw [HQ.out]; exact dig_step HD.out (by omega)⟩
    rw [ten_piece r hr9, ← HS.out, str_app, ← HR.out]; rfl
   case measure => simp [RowKit.intOf]; have := HQ.out; omega
  ·have hm9 : m < 10 := by omega
   have h9z : ¬ (9 : Int) < (m : Int) := by omega
   have hrz : (m : Int) + 1 ≤ 10 := by omega
   have hcs : ((⟨#[48, 49, 50, 51, 52, 53, 54, 55, 56, 57]⟩ : ByteArray).extract m (m + 1)).size ≤ 1 := by rw [ByteArray.size_extract]; omega
   have HE : Hid ((⟨#[48, 49, 50, 51, 52, 53, 54, 55, 56, 57]⟩ : ByteArray).extract m (m + 1) ++ S = str (decDigits M)) := Lib.hid (by
    rw [ten_piece m hm9, ← HS.out, str_app]
    have h := HD.out
    unfold DigAt at h
    rw [← h, decDigits_one hm9])
   go_wp2_with fail
   go_ret
   exact ⟨by rw [← HE.out]; rfl, rfl⟩
theorem rItoa (n : Int) (h0 : 0 ≤ n) (h1 : n ≤ 9223372036854775807) (w : World) :
  Calls Tryz.prog 40 #[.int .i64 n] w fun e w' => e = .returned (.string (str (itoa n))) ∧ w = w' := by
 obtain ⟨M, rfl⟩ : ∃ M : Nat, n = (M : Int) := ⟨n.toNat, by omega⟩
 have := rDigits M (by omega) w
 rwa [← itoa_nonneg] at this
end Go.Proofs.YthanoilbcdhbkaaGreatDoor
