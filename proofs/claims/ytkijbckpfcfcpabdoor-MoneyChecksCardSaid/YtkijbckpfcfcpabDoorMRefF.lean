/-
  Contracts of the document's own Power, digits and Format.
-/
import Derived.Test.YtkijbckpfcfcpabDoorMFormat
import Derived.WalkSpells
import Derived.Deep.LoopGhost
import Derived.Deep.QuietTactic
import Derived.IntWalk
namespace Go.Proofs.YtkijbckpfcfcpabDoor
open Go Go.RowKit Go.Lib WM

theorem ten_piece (r : Nat) (h : r < 10) : (⟨#[48, 49, 50, 51, 52, 53, 54, 55, 56, 57]⟩ : ByteArray).extract r (r + 1) = str [UInt8.ofNat (48 + r)] := by
  have key : ∀ r : Fin 10, (⟨#[48, 49, 50, 51, 52, 53, 54, 55, 56, 57]⟩ : ByteArray).extract r.val (r.val + 1) = str [UInt8.ofNat (48 + r.val)] := by decide
  exact key ⟨r, h⟩
theorem pow_le4 {k : Nat} (h : k ≤ 4) : 1 ≤ 10 ^ k ∧ 10 ^ k ≤ 10000 := by
  match k, h with
  | 0, _ => decide
  | 1, _ => decide
  | 2, _ => decide
  | 3, _ => decide
  | 4, _ => decide

set_option maxHeartbeats 1000000 in
theorem rpower (d : Nat) (hd : d ≤ 4) (w : World) :
    Calls Tryd.prog 30 #[.int .i64 d] w fun e w' => e = .returned (.int .i64 (10 ^ d : Nat)) ∧ w = w' := by
  obtain ⟨X, hX⟩ : ∃ X : Int, ((10 ^ d : Nat) : Int) = X := ⟨_, rfl⟩
  rw [hX]
  have HX := Lib.hid hX
  clear hX
  go_enter Tryd.func30, Tryd.ntmps30
  go_wp2
  go_loop [3, 4] (fun p i => ∃ k : Nat, k ≤ d ∧ i = .int .i64 k ∧ p = .int .i64 (10 ^ k : Nat)) (fun _ i => d - (RowKit.intOf i).toNat)
  case atStart => exact ⟨0, by omega, rfl, rfl⟩
  case round =>
    obtain ⟨k, hk, rfl, rfl⟩ := hrel
    obtain ⟨b0, b1⟩ := pow_le4 (k := k) (by omega)
    obtain ⟨P, hP⟩ : ∃ P, 10 ^ k = P := ⟨_, rfl⟩
    rw [hP] at b0 b1
    simp only [hP]
    have HP := Lib.hid hP
    clear hP
    by_cases hlt : k < d
    · have hkz : (k : Int) < (d : Int) := by omega
      have hw : wrap64 (10 * (P : Int)) = 10 * (P : Int) := by unfold wrap64; omega
      go_wp2
      go_round
      case rel => exact ⟨k + 1, by omega, by go_num, by rw [Nat.pow_succ, HP.out]; congr 1; omega⟩
      case measure => simp [RowKit.intOf]; omega
    · have he : k = d := by omega
      subst he
      go_wp2
      go_ret
      exact ⟨by rw [← HX.out, HP.out]; rfl, rfl⟩

/-- What has been written of M when m is left: the digits s behind. -/
def DigAt (M m : Nat) (s : List UInt8) : Prop := decDigits m ++ s = decDigits M
theorem dig_step {M m : Nat} {s : List UInt8} (h : DigAt M m s) (hm : ¬ m < 10) : DigAt M (m / 10) (UInt8.ofNat (48 + m % 10) :: s) := by
  unfold DigAt at *
  rw [dec_big hm] at h
  rw [← h, List.append_assoc]; rfl

set_option maxRecDepth 100000 in
set_option maxHeartbeats 1000000 in
theorem rdigits (M : Nat) (hM : M ≤ 1000000000000) (w : World) :
    Calls Tryd.prog 31 #[.int .i64 M] w fun e w' => e = .returned (.string (str (decDigits M))) ∧ w = w' := by
  have hDL : nDigits M ≤ 13 := nDigits_le 12 M (by have e10 : (10 : Nat) ^ (12 + 1) = 10000000000000 := by decide
                                                   omega)
  have HDL := Lib.hid hDL
  clear hDL
  go_enter Tryd.func31, Tryd.ntmps31
  go_wp2
  go_loop [0, 3] (fun n x => ∃ (m : Nat) (s : List UInt8), n = .int .i64 m ∧ x = .string (str s) ∧ m ≤ 1000000000000 ∧ DigAt M m s) (fun n _ => (RowKit.intOf n).toNat)
  case atStart => exact ⟨M, [], rfl, rfl, hM, List.append_nil _⟩
  case round =>
    obtain ⟨m, s, rfl, rfl, hm, hD⟩ := hrel
    have hsl : s.length ≤ 13 := by
      have h1 := congrArg List.length hD
      rw [List.length_append, decDigits_length, decDigits_length] at h1
      have := HDL.out
      omega
    have hsz : (str s).size ≤ 13 := by rw [str_size]; exact hsl
    obtain ⟨S, hS⟩ : ∃ S, str s = S := ⟨_, rfl⟩
    rw [hS] at hsz
    simp only [hS]
    have HS := Lib.hid hS; have HD := Lib.hid hD
    clear hS hD hsl
    by_cases h9 : 9 < m
    · have h9z : (9 : Int) < (m : Int) := by omega
      have em : (m : Int).tmod 10 = (m : Int) % 10 := Int.tmod_eq_emod_of_nonneg (by omega)
      have eq : (m : Int).tdiv 10 = (m : Int) / 10 := Int.tdiv_eq_ediv_of_nonneg (by omega)
      obtain ⟨r, hr⟩ : ∃ r : Nat, (m : Int).tmod 10 = (r : Int) := ⟨m % 10, by omega⟩
      obtain ⟨q, hq⟩ : ∃ q : Nat, (m : Int).tdiv 10 = (q : Int) := ⟨m / 10, by omega⟩
      have hr9 : r < 10 := by omega
      have hrz : (r : Int) + 1 ≤ 10 := by omega
      have hqz : (q : Int) ≤ 1000000000000 := by omega
      have hwq : wrap64 (q : Int) = (q : Int) := by unfold wrap64; omega
      have HR := Lib.hid (show r = m % 10 by omega); have HQ := Lib.hid (show q = m / 10 by omega)
      have hcs : ((⟨#[48, 49, 50, 51, 52, 53, 54, 55, 56, 57]⟩ : ByteArray).extract r (r + 1)).size ≤ 1 := by rw [ByteArray.size_extract]; omega
      clear em eq
      go_wp2_with fail
      go_round
      case rel =>
        refine ⟨q, UInt8.ofNat (48 + m % 10) :: s, rfl, ?_, by omega, by rw [HQ.out]; exact dig_step HD.out (by omega)⟩
        rw [ten_piece r hr9, ← HS.out, str_app, ← HR.out]; rfl
      case measure => simp [RowKit.intOf]; have := HQ.out; omega
    · have hm9 : m < 10 := by omega
      have h9z : ¬ (9 : Int) < (m : Int) := by omega
      have hrz : (m : Int) + 1 ≤ 10 := by omega
      have hcs : ((⟨#[48, 49, 50, 51, 52, 53, 54, 55, 56, 57]⟩ : ByteArray).extract m (m + 1)).size ≤ 1 := by rw [ByteArray.size_extract]; omega
      have HE : Hid ((⟨#[48, 49, 50, 51, 52, 53, 54, 55, 56, 57]⟩ : ByteArray).extract m (m + 1) ++ S = str (decDigits M)) := Lib.hid (by
        rw [ten_piece m hm9, ← HS.out, str_app]
        have h := HD.out
        unfold DigAt at h
        rw [← h, dec_small hm9])
      go_wp2_with fail
      go_ret
      exact ⟨by rw [← HE.out]; rfl, rfl⟩

theorem rdig_quiet (M : Nat) (hM : M ≤ 1000000000000) (W : World) :
    Calls Tryd.prog 31 #[.int .i64 M] W fun e w' => e = .returned (.string (str (decDigits M))) ∧ w' = W :=
  (rdigits M hM W).mono fun _ _ ⟨a, b⟩ => ⟨a, b.symm⟩

/-- The text with a point, as the document puts it together. -/
theorem rjoin (n m : Nat) (sg : List UInt8) (hn : ¬ n = 0) : str sg ++ str (decDigits (m / 10 ^ n)) ++ ⟨#[46]⟩ ++ (str (decDigits (10 ^ n + m % 10 ^ n))).extract 1 (str (decDigits (10 ^ n + m % 10 ^ n))).size = str (sg ++ pointed m n) := by
  rw [str_cut, str_list, str_size, List.take_length, drop_one, show (⟨#[46]⟩ : ByteArray) = str [46] from rfl, str_app, str_app, str_app]
  unfold pointed
  rw [if_neg hn]
  simp

set_option maxRecDepth 100000 in
set_option maxHeartbeats 2000000 in
theorem rformat_point (a : Int) (n m P : Nat) (sg : List UInt8) (SG : ByteArray) (hSG : str sg = SG) (hsl : sg.length ≤ 1) (hn : ¬ n = 0) (hn4 : n ≤ 4) (hP : P = 10 ^ n) (hm : m ≤ 1000000000000) (hs : (a < 0 ∧ sg = [45] ∧ -a = m) ∨ (¬ a < 0 ∧ sg = [] ∧ a = m)) (ha : amtB a = true) (w : World) :
    Calls Tryd.prog 24 #[.int .i64 a, .int .i64 n] w fun e w' => e = .returned (.tuple #[.string (str (sg ++ pointed m n)), .int .i64 0]) ∧ Below w.heap.size w w' := by
  have V := fun W => rvalid a W
  simp only [ha] at V
  have PW := fun W => rpower n hn4 W
  have hp4 := pow_le4 hn4
  have HJ := rjoin n m sg hn
  rw [hSG] at HJ
  rw [← hP] at PW hp4 HJ
  obtain ⟨p0, p1⟩ := hp4
  obtain ⟨q, hq⟩ : ∃ q, m / P = q := ⟨_, rfl⟩
  obtain ⟨r, hr⟩ : ∃ r, m % P = r := ⟨_, rfl⟩
  have hrP : r < P := by rw [← hr]; exact Nat.mod_lt _ (by omega)
  have hqm : q ≤ m := by rw [← hq]; exact Nat.div_le_self _ _
  rw [hq, hr] at HJ
  have C1 := fun W => rdig_quiet q (by omega) W
  have C2 := fun W => rdig_quiet (P + r) (by omega) W
  have eq : (m : Int).tdiv (P : Int) = (q : Int) := by rw [Int.tdiv_eq_ediv_of_nonneg (by omega), ← hq]; rfl
  have er : (m : Int).tmod (P : Int) = (r : Int) := by rw [Int.tmod_eq_emod_of_nonneg (by omega), ← hr]; rfl
  have hl1 : (str (decDigits q)).size ≤ 13 := by
    rw [str_size, decDigits_length]
    exact nDigits_le 12 q (by have e10 : (10 : Nat) ^ (12 + 1) = 10000000000000 := by decide
                              omega)
  have hl2 : (str (decDigits (P + r))).size ≤ 13 ∧ 1 ≤ (str (decDigits (P + r))).size := by
    rw [str_size, decDigits_length]
    exact ⟨nDigits_le 12 (P + r) (by have e10 : (10 : Nat) ^ (12 + 1) = 10000000000000 := by decide
                                     omega), nDigits_pos _⟩
  obtain ⟨Q, hQ⟩ : ∃ x, str (decDigits q) = x := ⟨_, rfl⟩
  obtain ⟨D, hD⟩ : ∃ x, str (decDigits (P + r)) = x := ⟨_, rfl⟩
  obtain ⟨R, hR⟩ : ∃ x, str (sg ++ pointed m n) = x := ⟨_, rfl⟩
  rw [hQ] at C1 hl1; rw [hD] at C2 hl2
  rw [hQ, hD, hR] at HJ
  rw [hR]
  obtain ⟨hl2, hl3⟩ := hl2
  have hSs : SG.size ≤ 1 := by rw [← hSG, str_size]; exact hsl
  have hxs : (D.extract 1 D.size).size ≤ 13 := by rw [ByteArray.size_extract]; omega
  have HJ := Lib.hid HJ
  have V := Lib.hid V; have PW := Lib.hid PW; have C1 := Lib.hid C1
  have ws : IntKind.i64.wrap ((P : Int) + (r : Int)) = ((P + r : Nat) : Int) := by rw [IntKind.wrap_i64]; omega
  obtain ⟨t, ht⟩ : ∃ t, P + r = t := ⟨_, rfl⟩
  rw [ht] at ws C2
  have C2 := Lib.hid C2
  have hP0 : ¬ (P : Int) = 0 := by omega
  have hz0 : ((n : Int) == 0) = false := by rw [beq_eq_false_iff_ne]; omega
  have hn0 : ¬ (n : Int) = 0 := by omega
  have hd1 : ¬ (n : Int) < 0 := by omega
  have hd2 : ¬ (4 : Int) < (n : Int) := by omega
  have wq : IntKind.i64.wrap (q : Int) = (q : Int) := by rw [IntKind.wrap_i64]; omega
  have ha2 : -1000000000000 ≤ a ∧ a ≤ 1000000000000 := by simpa [amtB] using ha
  obtain ⟨ha2, ha3⟩ := ha2
  have hw : wrap64 (-a) = -a := by unfold wrap64; omega
  rcases hs with ⟨s1, s2, s3⟩ | ⟨s1, s2, s3⟩
  · have hSG2 : SG = ⟨#[45]⟩ := by rw [← hSG, s2]; rfl
    subst hSG2
    clear hq hr hD hQ hR hP hSG s2 ht hrP hqm ha
    go_enter Tryd.func24, Tryd.ntmps24
    go_wp2_with fail
    refine (V.out _).mono ?_
    rintro e w1 ⟨rfl, rfl⟩
    go_wp2_with fail
    refine (PW.out _).mono ?_
    rintro e w1 ⟨rfl, rfl⟩
    go_wp2_with fail
    go_quiet (first | (go_at_call 31; with_reducible refine Calls.quiet_of_same (C1.out _)) | (go_at_call 31; with_reducible refine Calls.quiet_of_same (C2.out _)))
    go_wp2_with fail
    go_ret2
    exact ⟨by rw [← HJ.out]; rfl, bdn (bref _) _⟩
  · have hSG2 : SG = ⟨#[]⟩ := by rw [← hSG, s2]; rfl
    subst hSG2
    clear hq hr hD hQ hR hP hSG s2 ht hrP hqm ha
    subst s3
    go_enter Tryd.func24, Tryd.ntmps24
    go_wp2_with fail
    refine (V.out _).mono ?_
    rintro e w1 ⟨rfl, rfl⟩
    go_wp2_with fail
    refine (PW.out _).mono ?_
    rintro e w1 ⟨rfl, rfl⟩
    go_wp2_with fail
    go_quiet (first | (go_at_call 31; with_reducible refine Calls.quiet_of_same (C1.out _)) | (go_at_call 31; with_reducible refine Calls.quiet_of_same (C2.out _)))
    go_wp2_with fail
    go_ret2
    exact ⟨by rw [← HJ.out]; rfl, bdn (bref _) _⟩

set_option maxRecDepth 100000 in
set_option maxHeartbeats 2000000 in
theorem rformat (a d : Int) (w : World) :
    Calls Tryd.prog 24 #[.int .i64 a, .int .i64 d] w fun e w' => e = .returned (.tuple #[.string (str (fmtL a d)), .int .i64 (fmtE a d)]) ∧ Below w.heap.size w w' := by
  have V := fun W => rvalid a W
  cases hv : amtB a
  · have HR : Hid (fmtL a d = [] ∧ fmtE a d = 1) := Lib.hid (by unfold fmtL fmtE; rw [hv, Bool.false_and]; exact ⟨rfl, rfl⟩)
    simp only [hv] at V
    have V := Lib.hid V
    clear hv
    go_enter Tryd.func24, Tryd.ntmps24
    go_wp2_with fail
    refine (V.out _).mono ?_
    rintro e w1 ⟨rfl, rfl⟩
    go_wp2_with fail
    go_ret2
    exact ⟨by rw [HR.out.1, HR.out.2]; rfl, bref _⟩
  · by_cases d0 : d < 0
    · have HR : Hid (fmtL a d = [] ∧ fmtE a d = 1) := Lib.hid (by
        have : plB d = false := by unfold plB; simp; omega
        unfold fmtL fmtE; rw [hv, this]; exact ⟨rfl, rfl⟩)
      simp only [hv] at V
      have V := Lib.hid V
      clear hv
      go_enter Tryd.func24, Tryd.ntmps24
      go_wp2_with fail
      refine (V.out _).mono ?_
      rintro e w1 ⟨rfl, rfl⟩
      go_wp2_with fail
      go_ret2
      exact ⟨by rw [HR.out.1, HR.out.2]; rfl, bref _⟩
    · by_cases d4 : 4 < d
      · have HR : Hid (fmtL a d = [] ∧ fmtE a d = 1) := Lib.hid (by
          have : plB d = false := by unfold plB; simp; omega
          unfold fmtL fmtE; rw [hv, this]; exact ⟨rfl, rfl⟩)
        simp only [hv] at V
        have V := Lib.hid V
        clear hv
        go_enter Tryd.func24, Tryd.ntmps24
        go_wp2_with fail
        refine (V.out _).mono ?_
        rintro e w1 ⟨rfl, rfl⟩
        go_wp2_with fail
        go_ret2
        exact ⟨by rw [HR.out.1, HR.out.2]; rfl, bref _⟩
      · have hp : plB d = true := by unfold plB; simp; omega
        have ha : -1000000000000 ≤ a ∧ a ≤ 1000000000000 := by simpa [amtB] using hv
        obtain ⟨n, rfl⟩ : ∃ n : Nat, d = n := ⟨d.toNat, by omega⟩
        have hE : fmtE a n = 0 := by unfold fmtE; rw [hv, hp]; rfl
        have hL : fmtL a n = (if a < 0 then 45 :: pointed a.natAbs n else pointed a.natAbs n) := by unfold fmtL; rw [hv, hp, if_pos (by decide), Int.toNat_natCast]
        obtain ⟨m, hm⟩ : ∃ m, a.natAbs = m := ⟨_, rfl⟩
        have hm1 : m ≤ 1000000000000 := by omega
        rw [hm] at hL
        by_cases hn : n = 0
        · subst hn
          have PW := fun W => rpower 0 (by omega) W
          have C1 := fun W => rdigits m hm1 W
          have hdl : (str (decDigits m)).size ≤ 13 := by
            rw [str_size, decDigits_length]
            exact nDigits_le 12 m (by have e10 : (10 : Nat) ^ (12 + 1) = 10000000000000 := by decide
                                      omega)
          have hpt : pointed m 0 = decDigits m := by unfold pointed; rw [if_pos rfl]
          rw [hpt] at hL
          obtain ⟨Q, hQ⟩ : ∃ x, str (decDigits m) = x := ⟨_, rfl⟩
          rw [hQ] at C1 hdl
          simp only [hv] at V
          have V := Lib.hid V; have C1 := Lib.hid C1; have PW := Lib.hid PW
          have hw : wrap64 (-a) = -a := by unfold wrap64; omega
          by_cases hneg : a < 0
          · have HR : Hid (str (fmtL a (0 : Nat)) = ⟨#[45]⟩ ++ Q ∧ fmtE a (0 : Nat) = 0) := Lib.hid ⟨by rw [hL, if_pos hneg, ← hQ, show (⟨#[45]⟩ : ByteArray) = str [45] from rfl, str_app]; rfl, hE⟩
            have hma : -a = (m : Int) := by omega
            clear hv hp hE hL hQ hm hpt
            go_enter Tryd.func24, Tryd.ntmps24
            go_wp2_with fail
            refine (V.out _).mono ?_
            rintro e w1 ⟨rfl, rfl⟩
            go_wp2_with fail
            refine (PW.out _).mono ?_
            rintro e w1 ⟨rfl, rfl⟩
            go_wp2_with fail
            refine (C1.out _).mono ?_
            rintro e w1 ⟨rfl, rfl⟩
            go_wp2_with fail
            go_ret2
            exact ⟨by rw [HR.out.1, HR.out.2]; rfl, bref _⟩
          · have HR : Hid (str (fmtL a (0 : Nat)) = ⟨#[]⟩ ++ Q ∧ fmtE a (0 : Nat) = 0) := Lib.hid ⟨by rw [hL, if_neg hneg, ← hQ, show (⟨#[]⟩ : ByteArray) = str [] from rfl, str_app]; rfl, hE⟩
            have hma : a = (m : Int) := by omega
            subst hma
            clear hv hp hE hL hQ hm hpt
            go_enter Tryd.func24, Tryd.ntmps24
            go_wp2_with fail
            refine (V.out _).mono ?_
            rintro e w1 ⟨rfl, rfl⟩
            go_wp2_with fail
            refine (PW.out _).mono ?_
            rintro e w1 ⟨rfl, rfl⟩
            go_wp2_with fail
            refine (C1.out _).mono ?_
            rintro e w1 ⟨rfl, rfl⟩
            go_wp2_with fail
            go_ret2
            exact ⟨by rw [HR.out.1, HR.out.2]; rfl, bref _⟩
        · by_cases hneg : a < 0
          · have := rformat_point a n m (10 ^ n) [45] _ rfl (by simp) hn (by omega) rfl hm1 (Or.inl ⟨hneg, rfl, by omega⟩) hv w
            rw [hE, hL, if_pos hneg]
            exact this
          · have := rformat_point a n m (10 ^ n) [] _ rfl (by simp) hn (by omega) rfl hm1 (Or.inr ⟨hneg, rfl, by omega⟩) hv w
            rw [hE, hL, if_neg hneg]
            exact this
end Go.Proofs.YtkijbckpfcfcpabDoor
