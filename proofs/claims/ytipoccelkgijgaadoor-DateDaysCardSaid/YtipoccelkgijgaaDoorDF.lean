/-
  Contracts of twoDigits and Format, and of the document's own digits and Format.
-/
import Derived.Test.YtipoccelkgijgaaDoorDE
import Derived.Test.YtipoccelkgijgaaDoorShelf
import Derived.Lib.Walk
import Derived.Lib.ItoaWalk
import Derived.WalkSpells
import Derived.BigCall
import Derived.BigGuard
namespace Go.Proofs.YtipoccelkgijgaaDoor
open Go Go.RowKit Go.Lib WM

theorem size_list (s : ByteArray) : s.data.toList.length = s.size := by rw [Array.length_toList]; rfl
def str (l : List UInt8) : ByteArray := ⟨l.toArray⟩
theorem str_size (l : List UInt8) : (str l).size = l.length := by simp [str, ByteArray.size]
theorem str_list (l : List UInt8) : (str l).data.toList = l := by simp [str]
theorem str_app (a b : List UInt8) : str a ++ str b = str (a ++ b) := by
  apply ByteArray.ext
  simp [str]
theorem list_str (s : ByteArray) : str s.data.toList = s := by
  apply ByteArray.ext
  simp [str]
theorem str_cut (s : ByteArray) (a b : Nat) : s.extract a b = str ((s.data.toList.take b).drop a) := by
  apply ByteArray.ext
  apply Array.toList_inj.1
  simp [str, ByteArray.data_extract, List.drop_take]
theorem ten_piece (r : Nat) (h : r < 10) : (⟨#[48, 49, 50, 51, 52, 53, 54, 55, 56, 57]⟩ : ByteArray).extract r (r + 1) = str [UInt8.ofNat (48 + r)] := by
  have key : ∀ r : Fin 10, (⟨#[48, 49, 50, 51, 52, 53, 54, 55, 56, 57]⟩ : ByteArray).extract r.val (r.val + 1) = str [UInt8.ofNat (48 + r.val)] := by decide
  exact key ⟨r, h⟩

/-- The library's table of the powers of ten reads as its text lays it. -/
def Tb (w : World) : Prop := Lib.TabIs Tryd.prog w "internal/strconv.uint64pow10" .u64 Lib.pow10Tab
theorem Tb.keep {w w' : World} (h : Tb w) (hb : Below w.heap.size w w') : Tb w' := Lib.tabBelow_of_tabIs h w' hb
theorem mitoa (n : Nat) (hn : n ≤ 1000000000000) (w : World) (ht : Tb w) :
    Calls Tryd.prog 32 #[.int .i64 n] w fun e w' => e = .returned (.string (str (decDigits n))) ∧ Below w.heap.size w w' := by
  refine (Tryd.strconv_Itoa n (by omega) (by omega) w ht).mono fun e w' ⟨he, k, os, hw⟩ => ⟨?_, by rw [hw]; exact Lib.below_grow w.heap.size w (Nat.le_refl _) k os⟩
  rw [he]
  have : itoa (n : Int) = decDigits n := by unfold itoa; rw [if_neg (by omega), Int.toNat_natCast]
  rw [this]; rfl

theorem pad2_small (n : Nat) (h : n < 10) : pad 2 n = 48 :: decDigits n := by
  rw [pad_digits 1 n (by omega), nDigits_small h]; rfl
theorem pad2_big (n : Nat) (h0 : ¬ n < 10) (h : n < 100) : pad 2 n = decDigits n := by
  rw [pad_digits 1 n (by omega), nDigits_big h0, nDigits_small (by omega)]; rfl
theorem pad4_big (n : Nat) (h0 : 1000 ≤ n) (h : n < 10000) : pad 4 n = decDigits n := by
  have e := pad_digits 3 n (by omega)
  rw [nDigits_big (by omega), nDigits_big (by omega), nDigits_big (by omega), nDigits_small (by omega)] at e
  exact e

/-- The text of a civil date. -/
def textL (y m d : Nat) : List UInt8 := pad 4 y ++ 45 :: (pad 2 m ++ 45 :: pad 2 d)
theorem text_join (y m d : Nat) : str (pad 4 y) ++ ⟨#[45]⟩ ++ str (pad 2 m) ++ ⟨#[45]⟩ ++ str (pad 2 d) = str (textL y m d) := by
  rw [show (⟨#[45]⟩ : ByteArray) = str [45] from rfl, str_app, str_app, str_app, str_app]
  unfold textL
  simp

set_option maxHeartbeats 1000000 in
theorem mtwo (n : Nat) (hn : n < 100) (w : World) (ht : Tb w) :
    Calls Tryd.prog 33 #[.int .i64 n] w fun e w' => e = .returned (.string (str (pad 2 n))) ∧ Below w.heap.size w w' := by
  have I := fun W hT => mitoa n (by omega) W hT
  have hds : (str (decDigits n)).size ≤ 13 := by
    rw [str_size, decDigits_length]
    exact nDigits_le 12 n (by have e10 : (10 : Nat) ^ (12 + 1) = 10000000000000 := by decide
                              omega)
  obtain ⟨T, hT⟩ : ∃ T, str (decDigits n) = T := ⟨_, rfl⟩
  rw [hT] at I hds
  have I := Lib.hid I
  by_cases c : n < 10
  · have HR : Hid (str (pad 2 n) = ⟨#[48]⟩ ++ T) := Lib.hid (by rw [pad2_small n c, ← hT, show (⟨#[48]⟩ : ByteArray) = str [48] from rfl, str_app]; rfl)
    have cz : (n : Int) < 10 := by omega
    clear hT
    go_enter Tryd.func33, Tryd.ntmps33
    go_wp2_with fail
    refine (I.out _ ht).mono ?_
    rintro e w1 ⟨rfl, q1⟩
    go_wp2_with fail
    go_ret
    exact ⟨by rw [HR.out]; rfl, q1⟩
  · have HR : Hid (str (pad 2 n) = T) := Lib.hid (by rw [pad2_big n c hn, ← hT])
    have cz : ¬ (n : Int) < 10 := by omega
    clear hT
    go_enter Tryd.func33, Tryd.ntmps33
    go_wp2_with fail
    refine (I.out _ ht).mono ?_
    rintro e w1 ⟨rfl, q1⟩
    go_wp2_with fail
    go_ret
    exact ⟨by rw [HR.out]; rfl, q1⟩

theorem mfmt_no (day : Int) (h : vdB day = false) (w : World) : Calls Tryd.prog 17 #[.int .i64 day] w fun e w' => e = .returned (.string ⟨#[]⟩) ∧ w = w' := by
  have V := fun W => mvalid day W
  rw [h] at V
  have V := Lib.hid V
  clear h
  go_enter Tryd.func17, Tryd.ntmps17
  go_wp2_with fail
  refine (V.out _).mono ?_
  rintro e w1 ⟨rfl, rfl⟩
  go_wp2_with fail
  go_ret
  exact ⟨rfl, rfl⟩
theorem rfmt_no (day : Int) (h : vdB day = false) (w : World) : Calls Tryd.prog 18 #[.int .i64 day] w fun e w' => e = .returned (.string ⟨#[]⟩) ∧ w = w' := by
  have V := fun W => rvalid day W
  rw [h] at V
  have V := Lib.hid V
  clear h
  go_enter Tryd.func18, Tryd.ntmps18
  go_wp2_with fail
  refine (V.out _).mono ?_
  rintro e w1 ⟨rfl, rfl⟩
  go_wp2_with fail
  go_ret
  exact ⟨rfl, rfl⟩

set_option maxRecDepth 100000 in
set_option maxHeartbeats 2000000 in
theorem mfmt (day : Int) (y m d : Nat) (h : Civ day y m d) (w : World) (hL : Ln w) (ht : Tb w) :
    Calls Tryd.prog 17 #[.int .i64 day] w fun e w' => e = .returned (.string (str (textL y m d))) ∧ Below w.heap.size w w' := by
  have V := fun W => mvalid day W
  rw [h.vd] at V
  have C := mcivil day y m d h w hL
  have y0 := h.y0; have y1 := h.y1; have m1 := h.m1
  have d31 : (d : Int) ≤ 31 := by have := h.d1; have := len_bd0 y m; omega
  have I := fun W hT => mitoa y (by omega) W hT
  have M := fun W hT => mtwo m (by omega) W hT
  have D := fun W hT => mtwo d (by omega) W hT
  have HJ := text_join y m d
  rw [pad4_big y (by omega) (by omega)] at HJ
  have s1 : (str (decDigits y)).size ≤ 13 := by
    rw [str_size, decDigits_length]
    exact nDigits_le 12 y (by have e10 : (10 : Nat) ^ (12 + 1) = 10000000000000 := by decide
                              omega)
  have s2 : (str (pad 2 m)).size ≤ 2 := by rw [str_size, pad_length]; omega
  have s3 : (str (pad 2 d)).size ≤ 2 := by rw [str_size, pad_length]; omega
  obtain ⟨T, hT⟩ : ∃ T, str (decDigits y) = T := ⟨_, rfl⟩
  obtain ⟨U, hU⟩ : ∃ U, str (pad 2 m) = U := ⟨_, rfl⟩
  obtain ⟨X, hX⟩ : ∃ X, str (pad 2 d) = X := ⟨_, rfl⟩
  rw [hT] at I s1 HJ
  rw [hU] at M s2 HJ
  rw [hX] at D s3 HJ
  have V := Lib.hid V; have C := Lib.hid C; have I := Lib.hid I; have M := Lib.hid M; have D := Lib.hid D; have HJ := Lib.hid HJ
  clear hT hU hX h
  go_enter Tryd.func17, Tryd.ntmps17
  go_wp2_with fail
  refine (V.out _).mono ?_
  rintro e w1 ⟨rfl, rfl⟩
  go_wp2_with fail
  refine C.out.mono ?_
  rintro e w1 ⟨rfl, rfl⟩
  go_wp2_with fail
  refine (I.out _ ht).mono ?_
  rintro e w1 ⟨rfl, q1⟩
  go_wp2_with fail
  refine (M.out _ (ht.keep q1)).mono ?_
  rintro e w2 ⟨rfl, q2⟩
  have Z2 := btr q1 q2
  go_wp2_with fail
  refine (D.out _ (ht.keep Z2)).mono ?_
  rintro e w3 ⟨rfl, q3⟩
  have Z3 := btr Z2 q3
  go_wp2_with fail
  go_ret
  exact ⟨by rw [← HJ.out]; rfl, Z3⟩

/-- What has been written of M's last c digits when i of them are written and m is left. -/
def PadAt (c M i m : Nat) (s : List UInt8) : Prop := pad (c - i) m ++ s = pad c M ∧ s.length = i
theorem pad_step {c M i m : Nat} {s : List UInt8} (h : PadAt c M i m s) (hi : i < c) : PadAt c M (i + 1) (m / 10) (UInt8.ofNat (48 + m % 10) :: s) := by
  obtain ⟨h1, h2⟩ := h
  refine ⟨?_, by rw [List.length_cons, h2]⟩
  rw [← h1, show c - i = (c - (i + 1)) + 1 by omega, pad, List.append_assoc]; rfl

set_option maxRecDepth 100000 in
set_option maxHeartbeats 1000000 in
theorem rdigits (M c : Nat) (hc : c ≤ 4) (hM : M ≤ 100000) (w : World) :
    Calls Tryd.prog 34 #[.int .i64 M, .int .i64 c] w fun e w' => e = .returned (.string (str (pad c M))) ∧ w = w' := by
  go_enter Tryd.func34, Tryd.ntmps34
  go_wp2_with fail
  go_loop [0, 5, 6] (fun n x j => ∃ (i m : Nat) (s : List UInt8), n = .int .i64 m ∧ x = .string (str s) ∧ j = .int .i64 i ∧ m ≤ 100000 ∧ i ≤ c ∧ PadAt c M i m s) (fun _ _ j => c - (RowKit.intOf j).toNat)
  case atStart => exact ⟨0, M, [], rfl, rfl, rfl, hM, by omega, List.append_nil _, rfl⟩
  case round =>
    obtain ⟨i, m, s, rfl, rfl, rfl, hm, hi, hD⟩ := hrel
    have hsz : (str s).size ≤ 13 := by rw [str_size, hD.2]; omega
    obtain ⟨S, hS⟩ : ∃ S, str s = S := ⟨_, rfl⟩
    rw [hS] at hsz
    simp only [hS]
    have HS := Lib.hid hS; have HD := Lib.hid hD
    clear hS hD
    by_cases hlt : i < c
    · have hz : (i : Int) < (c : Int) := by omega
      have em : (m : Int).tmod 10 = (m : Int) % 10 := Int.tmod_eq_emod_of_nonneg (by omega)
      have eq : (m : Int).tdiv 10 = (m : Int) / 10 := Int.tdiv_eq_ediv_of_nonneg (by omega)
      obtain ⟨r, hr⟩ : ∃ r : Nat, (m : Int).tmod 10 = (r : Int) := ⟨m % 10, by omega⟩
      obtain ⟨q, hq⟩ : ∃ q : Nat, (m : Int).tdiv 10 = (q : Int) := ⟨m / 10, by omega⟩
      have hr9 : r < 10 := by omega
      have hrz : (r : Int) + 1 ≤ 10 := by omega
      have hqz : (q : Int) ≤ 100000 := by omega
      have HR := Lib.hid (show r = m % 10 by omega); have HQ := Lib.hid (show q = m / 10 by omega)
      have hcs : ((⟨#[48, 49, 50, 51, 52, 53, 54, 55, 56, 57]⟩ : ByteArray).extract r (r + 1)).size ≤ 1 := by rw [ByteArray.size_extract]; omega
      clear em eq
      go_wp2_with fail
      go_round
      case rel =>
        refine ⟨i + 1, q, UInt8.ofNat (48 + m % 10) :: s, rfl, ?_, by go_num, by omega, by omega, by rw [HQ.out]; exact pad_step HD.out hlt⟩
        rw [ten_piece r hr9, ← HS.out, str_app, ← HR.out]; rfl
      case measure => simp [RowKit.intOf]; omega
    · have hic : i = c := by omega
      subst hic
      have HE : Hid (str (pad i M) = S) := Lib.hid (by
        have h := HD.out.1
        rw [Nat.sub_self, pad, List.nil_append] at h
        rw [← h, HS.out])
      have hz : ¬ (i : Int) < (i : Int) := by omega
      go_wp2_with fail
      go_ret
      exact ⟨by rw [HE.out]; rfl, rfl⟩

set_option maxRecDepth 100000 in
set_option maxHeartbeats 2000000 in
theorem rfmt (day : Int) (y m d : Nat) (h : Civ day y m d) (w : World) :
    Calls Tryd.prog 18 #[.int .i64 day] w fun e w' => e = .returned (.string (str (textL y m d))) ∧ w = w' := by
  have V := fun W => rvalid day W
  rw [h.vd] at V
  have C := rcivil day y m d h w
  have y0 := h.y0; have y1 := h.y1; have m1 := h.m1
  have d31 : (d : Int) ≤ 31 := by have := h.d1; have := len_bd0 y m; omega
  have I := rdigits y 4 (by omega) (by omega) w
  have M := rdigits m 2 (by omega) (by omega) w
  have D := rdigits d 2 (by omega) (by omega) w
  have HJ := text_join y m d
  have s1 : (str (pad 4 y)).size ≤ 4 := by rw [str_size, pad_length]; omega
  have s2 : (str (pad 2 m)).size ≤ 2 := by rw [str_size, pad_length]; omega
  have s3 : (str (pad 2 d)).size ≤ 2 := by rw [str_size, pad_length]; omega
  obtain ⟨T, hT⟩ : ∃ T, str (pad 4 y) = T := ⟨_, rfl⟩
  obtain ⟨U, hU⟩ : ∃ U, str (pad 2 m) = U := ⟨_, rfl⟩
  obtain ⟨X, hX⟩ : ∃ X, str (pad 2 d) = X := ⟨_, rfl⟩
  rw [hT] at I s1 HJ
  rw [hU] at M s2 HJ
  rw [hX] at D s3 HJ
  have V := Lib.hid V; have C := Lib.hid C; have I := Lib.hid I; have M := Lib.hid M; have D := Lib.hid D; have HJ := Lib.hid HJ
  clear hT hU hX h
  go_enter Tryd.func18, Tryd.ntmps18
  go_wp2_with fail
  refine (V.out _).mono ?_
  rintro e w1 ⟨rfl, rfl⟩
  go_wp2_with fail
  refine C.out.mono ?_
  rintro e w1 ⟨rfl, rfl⟩
  go_wp2_with fail
  refine I.out.mono ?_
  rintro e w1 ⟨rfl, rfl⟩
  go_wp2_with fail
  refine M.out.mono ?_
  rintro e w2 ⟨rfl, rfl⟩
  go_wp2_with fail
  refine D.out.mono ?_
  rintro e w3 ⟨rfl, rfl⟩
  go_wp2_with fail
  go_ret
  exact ⟨by rw [← HJ.out]; rfl, rfl⟩
end Go.Proofs.YtipoccelkgijgaaDoor
