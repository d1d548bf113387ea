/-
  Tokens: contracts of the document's own Rate, digits, Percent.
-/
import Derived.Test.YtpmappddepkhiaaGreatDoorTV
namespace Go.Proofs.YtpmappddepkhiaaGreatDoor
open Go Go.RowKit Go.Lib WM TM

def pE (n : Int) : Int := if 0 ≤ n ∧ n ≤ 1000000 then 0 else 1
def pV (n : Int) : List UInt8 := if 0 ≤ n ∧ n ≤ 1000000 then pct n.toNat else []
theorem tl_head (f : List UInt8) : ∀ c, (tl f ++ [37]).head? = some c → dig c = false := by
  intro c h
  unfold tl at h
  split at h
  · simp at h; subst h; decide
  · simp at h; subst h; decide
theorem sub48 (c : UInt8) (h : dig c = true) : IntKind.u8.wrap ((c.toNat : Int) - 48) = ((c.toNat - 48 : Nat) : Int) := by
  have hb := dig_bounds h
  rw [IntKind.wrap_u8]
  omega
theorem dig_nine {c : UInt8} (h : dig c = true) : c.toNat - 48 ≤ 9 := by have := dig_bounds h; omega
theorem ten_more (a z : Nat) (ha : a ≤ 1000000) (hz : z ≤ 9) : wrap64 (10 * (a : Int)) = 10 * (a : Int) ∧ wrap64 (10 * (a : Int) + (z : Int)) = 10 * (a : Int) + (z : Int) := by
  refine ⟨?_, ?_⟩
  · unfold wrap64; omega
  · unfold wrap64; omega
theorem ten_zero (a j : Nat) (hj : j ≤ 3) (ha : a ≤ 1000000 * 10 ^ j) : wrap64 (10 * (a : Int)) = ((10 * a : Nat) : Int) := by
  have hp : 10 ^ j ≤ 1000 := by
    have := Nat.pow_le_pow_right (show 0 < 10 by decide) hj
    omega
  have hp2 := Nat.mul_le_mul_left 1000000 hp
  unfold wrap64; omega
theorem one_more (F j : Nat) (h : F + j ≤ 4) : wrap64 ((F : Int) + (j : Int) + 1) = ((F + (j + 1) : Nat) : Int) := by unfold wrap64; omega
set_option maxRecDepth 100000 in
set_option maxHeartbeats 4000000 in
theorem rrate (s : ByteArray) (hs : s.size ≤ 9223372036854775806) (w : World) :
    Calls Tryz.prog 43 #[.string s] w fun e w' => e = .returned (.tuple #[.int .i64 ((rV (byt s) : Nat) : Int), .int .i64 (rE (byt s))]) ∧ w = w' := by
  have RF0 := fun W => rform s hs W
  rw [frm_ok] at RF0
  have RP0 := fun W => rplain s hs W
  have RD := Lib.hid (fun c W => rdigit c W)
  cases hok : rOk (byt s)
  · have e1 : rE (byt s) = 2 := by unfold rE; rw [hok]; rfl
    have e2 : rV (byt s) = 0 := by unfold rV; rw [e1]; rfl
    rw [hok] at RF0
    rw [e1, e2]
    have RF := Lib.hid RF0
    clear RF0 RP0 hok e1 e2
    go_enter Tryz.func43, Tryz.ntmps43
    go_wp2_with fail
    refine (RF.out _).mono ?_
    rintro e w1 ⟨rfl, rfl⟩
    go_wp2_with fail
    go_ret2
    exact ⟨rfl, rfl⟩
  rw [hok] at RF0
  have RF := Lib.hid RF0
  obtain ⟨d, f, hsh, el⟩ := ok_sh hok
  obtain ⟨p1, p2, p3, p4, p5, p6⟩ := sh_parts hsh
  have hpl : pln (byt s) = d.length := by
    rw [el, List.append_assoc]
    exact pln_numl d (tl f ++ [37]) hsh.1 (tl_head f)
  have hrE := rE_of hsh
  rw [← el] at hrE
  have hrV : rV (byt s) = if dval (d ++ f ++ zs (4 - f.length)) ≤ 1000000 then dval (d ++ f ++ zs (4 - f.length)) else 0 := by
    have hN : rN (byt s) = dval (d ++ f ++ zs (4 - f.length)) := by
      unfold rN
      rw [el, (sh_ok hsh).2]
    unfold rV
    rw [hrE, hN]
    by_cases q : dval (d ++ f ++ zs (4 - f.length)) ≤ 1000000
    · rw [if_pos q, if_pos rfl, if_pos q]
    · rw [if_neg q, if_neg (by decide), if_neg q]
  rw [hrE, hrV]
  rw [hpl] at RP0
  have RP := Lib.hid RP0
  obtain ⟨M, hM⟩ : ∃ M, (d ++ tl f).length = M := ⟨_, rfl⟩
  have hsz : s.size = M + 1 := by rw [← byt_len, el, List.length_append, hM]; rfl
  have hsi : ∀ i (h : i < s.size) (h2 : i < (d ++ tl f).length), s[i] = (d ++ tl f)[i] := by
    intro i h h2
    rw [byt_get s i h]
    simp only [el]
    rw [List.getElem_append_left h2]
  obtain ⟨N, hN⟩ : ∃ N, dval (d ++ f ++ zs (4 - f.length)) = N := ⟨_, rfl⟩
  have HDN := Lib.hid hN
  rw [hN]
  obtain ⟨RV, hRV⟩ : ∃ RV : Nat, (if N ≤ 1000000 then N else 0) = RV := ⟨_, rfl⟩
  obtain ⟨RE, hRE⟩ : ∃ RE : Int, (if N ≤ 1000000 then 0 else 1 : Int) = RE := ⟨_, rfl⟩
  rw [hRV, hRE]
  have HBIG : Hid (¬ N ≤ 1000000 → RV = 0 ∧ RE = 1) := Lib.hid (fun h => ⟨by rw [← hRV, if_neg h], by rw [← hRE, if_neg h]⟩)
  have HSML : Hid (N ≤ 1000000 → RV = N ∧ RE = 0) := Lib.hid (fun h => ⟨by rw [← hRV, if_pos h], by rw [← hRE, if_pos h]⟩)
  have HSH := Lib.hid hsh
  have HSI := Lib.hid hsi
  have HM := Lib.hid hM
  have HL4 := Lib.hid p4
  have HDF : Hid (∀ x, x ≤ dval (d ++ f) → x ≤ N) := Lib.hid (fun x hx => by
    have := dval_pre (d ++ f) (zs (4 - f.length))
    rw [hN] at this; omega)
  have hw1 : wrap64 ((s.size : Int) - 1) = (M : Int) := by unfold wrap64; omega
  have HW1 := Lib.hid hw1
  clear hw1
  obtain ⟨D, hD⟩ : ∃ D, d.length = D := ⟨_, rfl⟩
  have HD := Lib.hid hD
  rw [hD] at RP
  have hDM : D ≤ M := by rw [← hM, ← hD, List.length_append]; omega
  clear RF0 RP0 hok el p1 p2 p3 p4 p5 p6 hpl hrE hrV hM hsi hN hsh hD hRV hRE
  go_enter Tryz.func43, Tryz.ntmps43
  go_wp2_with fail
  refine (RF.out _).mono ?_
  rintro e w1 ⟨rfl, rfl⟩
  go_wp2_with fail
  refine (RP.out _).mono ?_
  rintro e w1 ⟨rfl, rfl⟩
  go_wp2_with fail
  go_loop [5, 6, 7] (fun n q i => ∃ (a b k : Nat), n = .int .i64 a ∧ q = .int .i64 b ∧ i = .int .i64 k ∧ k ≤ M ∧ a ≤ 1000000 ∧ b ≤ k ∧ RSt d f k a b) (fun _ _ i => M - (RowKit.intOf i).toNat)
  case atStart => exact ⟨0, 0, 0, rfl, rfl, rfl, by omega, by omega, by omega, rst_start HSH.out⟩
  case round =>
    obtain ⟨a, b, k, rfl, rfl, rfl, hk, ha, hb, hR⟩ := hrel
    have HR := Lib.hid hR
    by_cases hlt : k < M
    · have hkz : (k : Int) < (M : Int) := by omega
      have hks : k < s.size := by omega
      have hksz : (k : Int) < (s.size : Int) := by omega
      have hk2 : k < (d ++ tl f).length := by rw [HM.out]; exact hlt
      have hgi := HSI.out k hks hk2
      have RB := RD.out s[k]
      cases hB : dig s[k]
      · rw [hB] at RB
        have HRB := Lib.hid RB
        have hst := rst_skip HSH.out HR.out hk2 (by rw [← hgi]; exact hB)
        have HST := Lib.hid hst
        have hw1 := HW1.out
        clear RB hB hst hgi hR
        go_wp2_with fail
        refine (HRB.out _).mono ?_
        rintro e w1 ⟨rfl, rfl⟩
        go_wp2_with fail
        go_round
        case rel => clear hw1; exact ⟨a, b, k + 1, rfl, rfl, by go_num, by omega, by omega, by omega, HST.out⟩
        case measure => clear hw1; simp [RowKit.intOf]; omega
      · rw [hB] at RB
        have HRB := Lib.hid RB
        have hst := rst_dig HSH.out HR.out hk2 (by rw [← hgi]; exact hB)
        rw [← hgi] at hst
        obtain ⟨_, hst1, hst2⟩ := hst
        have hs48 := sub48 s[k] hB
        have hz9 := dig_nine hB
        have hkd : (if d.length < k then b + 1 else b) = (if D < k then b + 1 else b) := by rw [HD.out]
        rw [hkd] at hst1
        obtain ⟨z, hz⟩ : ∃ z, s[k].toNat - 48 = z := ⟨_, rfl⟩
        rw [hz] at hst1 hst2 hs48 hz9
        have HS48 := Lib.hid hs48
        clear hs48 hz
        have HS1 := Lib.hid hst1
        have HS2 := Lib.hid hst2
        clear RB hB hst1 hst2 hgi hR hkd
        by_cases hm : 1000000 < 10 * a + z
        · have hmz2 : (1000000 : Int) < 10 * (a : Int) + (z : Int) := by omega
          have HN2 := Lib.hid (HBIG.out (Nat.not_le.2 (Nat.lt_of_lt_of_le hm (HDF.out _ HS2.out))))
          obtain ⟨hw2, hw4⟩ := ten_more a z ha hz9
          have hs48 := HS48.out
          have hw1 := HW1.out
          clear HS1 HS2 hm
          go_wp2_with fail
          refine (HRB.out _).mono ?_
          rintro e w1 ⟨rfl, rfl⟩
          go_wp2_with fail
          go_ret2
          obtain ⟨rfl, rfl⟩ := HN2.out
          exact ⟨rfl, rfl⟩
        · have hmz2 : ¬ (1000000 : Int) < 10 * (a : Int) + (z : Int) := by omega
          have hm2 : 10 * a + z ≤ 1000000 := by omega
          have HS3 := Lib.hid (HS1.out hm2)
          clear HS1 HS2 hm
          by_cases hDk : D < k
          · have hDz : (D : Int) < (k : Int) := by omega
            have HS4 : Hid (RSt d f (k + 1) (10 * a + z) (b + 1)) := Lib.hid (by have := HS3.out; rwa [if_pos hDk] at this)
            clear HS3
            obtain ⟨hw2, hw4⟩ := ten_more a z ha hz9
            have hs48 := HS48.out
            have hw1 := HW1.out
            go_wp2_with fail
            refine (HRB.out _).mono ?_
            rintro e w1 ⟨rfl, rfl⟩
            go_wp2_with fail
            go_round
            case rel => clear hw2 hw4 hs48 hw1; exact ⟨10 * a + z, b + 1, k + 1, by first | rfl | go_num, by first | rfl | go_num, by go_num, by omega, by omega, by omega, HS4.out⟩
            case measure => clear hw2 hw4 hs48 hw1; simp [RowKit.intOf]; omega
          · have hDz : ¬ (D : Int) < (k : Int) := by omega
            have HS4 : Hid (RSt d f (k + 1) (10 * a + z) b) := Lib.hid (by have := HS3.out; rwa [if_neg hDk] at this)
            clear HS3
            obtain ⟨hw2, hw4⟩ := ten_more a z ha hz9
            have hs48 := HS48.out
            have hw1 := HW1.out
            go_wp2_with fail
            refine (HRB.out _).mono ?_
            rintro e w1 ⟨rfl, rfl⟩
            go_wp2_with fail
            go_round
            case rel => clear hw2 hw4 hs48 hw1; exact ⟨10 * a + z, b, k + 1, by first | rfl | go_num, rfl, by go_num, by omega, by omega, by omega, HS4.out⟩
            case measure => clear hw2 hw4 hs48 hw1; simp [RowKit.intOf]; omega
    · have he : k = M := by omega
      subst he
      have hR2 := hR
      rw [← HM.out] at hR2
      obtain ⟨r1, r2⟩ := rst_end hR2
      have HE1 := Lib.hid r1
      have HE2 := Lib.hid r2
      have hw1 := HW1.out
      clear hR hR2 r1 r2
      go_wp2_with fail
      clear hw1
      go_loop [5, 6] (fun n q => ∃ (j a : Nat), n = .int .i64 a ∧ q = .int .i64 ((f.length + j : Nat) : Int) ∧ f.length + j ≤ 4 ∧ a = dval (d ++ f ++ zs j) ∧ a ≤ 1000000 * 10 ^ j) (fun _ q => 4 - (RowKit.intOf q).toNat)
      case atStart => exact ⟨0, a, rfl, by rw [← HE2.out]; rfl, by have := HL4.out; omega, by rw [dval_zs0]; exact HE1.out, by omega⟩
      case round =>
        obtain ⟨j, a, rfl, rfl, hj, haj, hab⟩ := hrel
        have HAJ := Lib.hid haj
        clear haj
        obtain ⟨F, hF⟩ : ∃ F, f.length = F := ⟨_, rfl⟩
        rw [hF] at hj ⊢
        have HF := Lib.hid hF
        clear hF
        by_cases hlt : F + j < 4
        · have hz : ((F + j : Nat) : Int) < 4 := by omega
          have hz2 : (F : Int) + (j : Int) < 4 := by omega
          have hw2 := ten_zero a j (by omega) hab
          have hw3 := one_more F j (by omega)
          have HA2 : Hid (10 * a = dval (d ++ f ++ zs (j + 1)) ∧ 10 * a ≤ 1000000 * 10 ^ (j + 1)) := Lib.hid ⟨by rw [dval_zs, ← HAJ.out], by clear hw2 hw3; rw [Nat.pow_succ]; omega⟩
          clear hab
          go_wp2_with fail
          go_round
          case rel =>
            have HW2 := Lib.hid hw2
            clear hw2 hw3
            exact ⟨j + 1, 10 * a, by first | rfl | (rw [HW2.out]; done) | (rw [HW2.out]; go_num), by first | rfl | go_num, by omega, HA2.out.1, HA2.out.2⟩
          case measure => simp [RowKit.intOf]; omega
        · have hz : ¬ ((F + j : Nat) : Int) < 4 := by omega
          have hz2 : ¬ (F : Int) + (j : Int) < 4 := by omega
          have hNa : N = a := by
            rw [HAJ.out, ← HDN.out, show 4 - f.length = j from by rw [HF.out]; omega]
          subst hNa
          by_cases hm : N ≤ 1000000
          · have hmz : ¬ (1000000 : Int) < (N : Int) := by omega
            have HZ := Lib.hid (HSML.out hm)
            clear hab HDF
            go_wp2_with fail
            go_ret2
            obtain ⟨z1, z2⟩ := HZ.out
            rw [z1, z2]
            exact ⟨rfl, rfl⟩
          · have hmz : (1000000 : Int) < (N : Int) := by omega
            have HZ := Lib.hid (HBIG.out hm)
            clear hab HDF
            go_wp2_with fail
            go_ret2
            obtain ⟨z1, z2⟩ := HZ.out
            rw [z1, z2]
            exact ⟨rfl, rfl⟩
end Go.Proofs.YtpmappddepkhiaaGreatDoor
