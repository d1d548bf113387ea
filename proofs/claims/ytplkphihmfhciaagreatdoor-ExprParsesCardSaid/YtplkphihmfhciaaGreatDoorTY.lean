/-
  Tokens: contracts of the document's own digits, Percent, Words, Word.
-/
import Derived.Test.YtplkphihmfhciaaGreatDoorME
namespace Go.Proofs.YtplkphihmfhciaaGreatDoor
open Go Go.RowKit Go.Lib WM TM

theorem ten_piece (r : Nat) (h : r < 10) : (⟨#[48, 49, 50, 51, 52, 53, 54, 55, 56, 57]⟩ : ByteArray).extract r (r + 1) = str [UInt8.ofNat (48 + r)] := by
 have key : ∀ r : Fin 10, (⟨#[48, 49, 50, 51, 52, 53, 54, 55, 56, 57]⟩ : ByteArray).extract r.val (r.val + 1) = str [UInt8.ofNat (48 + r.val)] := by decide
 exact key ⟨r, h⟩
theorem pd_more (n0 j : Nat) : str [UInt8.ofNat (48 + n0 / 10 ^ j % 10)] ++ str (pd j n0) = str (pd (j + 1) n0) := by
 rw [str_app, pd_cons]; rfl
theorem wrap_nat (x : Nat) (h : x ≤ 1000000) : wrap64 (x : Int) = (x : Int) := by unfold wrap64; omega
theorem wrap_nat1 (x : Nat) (h : x < 10) : wrap64 ((x : Int) + 1) = (x : Int) + 1 := by unfold wrap64; omega
set_option maxRecDepth 100000 in
set_option maxHeartbeats 2000000 in
theorem rdigits (n0 least K : Nat) (h0 : n0 < 10 ^ K) (h1 : least ≤ K) (hK : K ≤ 10) (hmin : ∀ j, j < K → 10 ^ j ≤ n0 ∨ j < least) (hn : n0 ≤ 1000000) (w : World) :
  Calls Tryz.prog 110 #[.int .i64 (n0 : Int), .int .i64 (least : Int)] w fun e w' => e = .returned (.string (str (pd K n0))) ∧ w = w' := by
 have HM := Lib.hid hmin
 have H0 := Lib.hid h0
 have ht10 : (⟨#[48, 49, 50, 51, 52, 53, 54, 55, 56, 57]⟩ : ByteArray).size = 10 := rfl
 clear hmin h0
 go_enter Tryz.func110, Tryz.ntmps110
 go_wp2_with fail
 go_loopg [0, 5] (K) (fun g n x wr => ∃ (j q : Nat) (S : ByteArray), g = K - j ∧ j ≤ K ∧ n = .int .i64 (q : Int) ∧ x = .string S ∧ q = n0 / 10 ^ j ∧ S = str (pd j n0) ∧ wr = w)
 case atStart => exact ⟨0, n0, ⟨#[]⟩, by omega, by omega, rfl, rfl, by simp, rfl, rfl⟩
 case round =>
  obtain ⟨j, q, S, hg, hj, rfl, rfl, hq, hS, rfl⟩ := hrel
  have hsz : S.size = j := by rw [hS, str_size, pd_length]
  have hqn : q ≤ 1000000 := by
   have := Nat.div_le_self n0 (10 ^ j)
   omega
  by_cases hlt : j < K
  ·have hcon : 0 < q ∨ j < least := by
    rcases HM.out j hlt with h | h
    ·left
     rw [hq]
     exact Nat.div_pos h (Nat.pow_pos (by decide))
    ·exact Or.inr h
   have hr9 : q % 10 < 10 := Nat.mod_lt _ (by decide)
   have hrm : (q : Int).tmod 10 = ((q % 10 : Nat) : Int) := by rw [Int.tmod_eq_emod_of_nonneg (by omega)]; omega
   have hqd : (q : Int).tdiv 10 = ((q / 10 : Nat) : Int) := by rw [Int.tdiv_eq_ediv_of_nonneg (by omega)]; omega
   have hpc := ten_piece (q % 10) hr9
   have hnx := pd_more n0 j
   rw [← hq, ← hS] at hnx
   have hq2 : q / 10 = n0 / 10 ^ (j + 1) := by rw [hq, Nat.div_div_eq_div_mul, Nat.pow_succ]
   obtain ⟨r, hr⟩ : ∃ r, q % 10 = r := ⟨_, rfl⟩
   obtain ⟨q', hq'⟩ : ∃ q', q / 10 = q' := ⟨_, rfl⟩
   rw [hr] at hr9 hrm hpc hnx
   rw [hq'] at hqd hq2
   have hq'n : q' ≤ 1000000 := by omega
   have hcs : ((⟨#[48, 49, 50, 51, 52, 53, 54, 55, 56, 57]⟩ : ByteArray).extract r (r + 1)).size ≤ 1 := by rw [ByteArray.size_extract]; omega
   have HNX : Hid ((⟨#[48, 49, 50, 51, 52, 53, 54, 55, 56, 57]⟩ : ByteArray).extract r (r + 1) ++ S = str (pd (j + 1) n0)) := Lib.hid (by rw [hpc]; exact hnx)
   have HQ2 := Lib.hid hq2
   have hSs : S.size ≤ 10 := by omega
   have hrn : ((r : Int) + 1).toNat = r + 1 := by omega
   have hr10 : (r : Int) + 1 ≤ 10 := by omega
   have hr0 : (r : Int) ≤ (r : Int) + 1 := by omega
   have HG := Lib.hid hg
   have HSZ := Lib.hid hsz
   by_cases hq0 : 0 < q
   ·have hq0z : (0 : Int) < (q : Int) := by omega
    clear hq hS hnx hq2 hr hq' hcon hg hsz hpc ht10
    go_wp2_with fail
    go_roundg (K - (j + 1))
    case measure => rw [HG.out]; omega
    case rel => exact ⟨j + 1, q', _, rfl, by omega, by first | rfl | go_num, rfl, HQ2.out, HNX.out, rfl⟩
   ·have hq0z : ¬ (0 : Int) < (q : Int) := by omega
    have hlen : (S.size : Int) < (least : Int) := by omega
    clear hq hS hnx hq2 hr hq' hcon hg hsz hpc ht10
    go_wp2_with fail
    go_roundg (K - (j + 1))
    case measure => rw [HG.out]; omega
    case rel => exact ⟨j + 1, q', _, rfl, by omega, by first | rfl | go_num, rfl, HQ2.out, HNX.out, rfl⟩
  ·obtain rfl : j = K := by omega
   have hq0 : q = 0 := by rw [hq]; exact Nat.div_eq_of_lt H0.out
   subst hq0
   have hlen : ¬ (S.size : Int) < (least : Int) := by omega
   have HS := Lib.hid hS
   clear hq hS hg hsz
   go_wp2_with fail
   go_ret
   exact ⟨by rw [← HS.out]; rfl, rfl⟩

theorem trim_snoc (m : List UInt8) (c : UInt8) : trimRightB (m ++ [c]) c = trimRightB m c := by
 unfold trimRightB
 rw [List.reverse_append]
 show (List.dropWhile (fun x => x == c) (c :: m.reverse)).reverse = _
 rw [List.dropWhile_cons, if_pos (by simp)]
theorem trim_keep (m : List UInt8) (c : UInt8) (h : m.getLast? ≠ some c) : trimRightB m c = m := by
 have := trim_back m c 0 h
 rwa [List.replicate_zero, List.append_nil] at this
theorem wid_min (Q : Nat) (h : Q ≤ 100) : Q < 10 ^ wid Q ∧ 1 ≤ wid Q ∧ wid Q ≤ 10 ∧ ∀ j, j < wid Q → 10 ^ j ≤ Q ∨ j < 1 := by
 unfold wid
 by_cases h1 : Q < 10
 ·rw [if_pos h1]
  exact ⟨h1, by omega, by omega, fun j hj => Or.inr hj⟩
 ·rw [if_neg h1]
  by_cases h2 : Q < 100
  ·rw [if_pos h2]
   refine ⟨h2, by omega, by omega, fun j hj => ?_⟩
   match j, hj with
   | 0, _ => exact Or.inr (by omega)
   | 1, _ => left; show 10 ≤ Q; omega
  ·rw [if_neg h2]
   refine ⟨?_, by omega, by omega, fun j hj => ?_⟩
   ·show Q < 1000; omega
   ·match j, hj with
    | 0, _ => exact Or.inr (by omega)
    | 1, _ => left; show 10 ≤ Q; omega
    | 2, _ => left; show 100 ≤ Q; omega
theorem dec_len3 (Q : Nat) (h : Q ≤ 100) : (decDigits Q).length ≤ 3 := by
 rw [← dec_wid Q h, pd_length]
 unfold wid
 split
 ·omega
 ·split <;> omega
theorem byt_snoc (S : ByteArray) (m : Nat) (h : S.size = m + 1) : byt S = byt (S.extract 0 m) ++ [S[m]'(by omega)] := by
 rw [str_cut, byt_str, List.drop_zero]
 have h1 := take_snoc S m (by omega)
 rw [List.take_of_length_le (by rw [size_list]; omega)] at h1
 exact h1

set_option maxRecDepth 100000 in
set_option maxHeartbeats 4000000 in
theorem rpercent (n : Int) (w : World) :
  Calls Tryz.prog 81 #[.int .i64 n] w fun e w' => e = .returned (.tuple #[.string (str (pV n)), .int .i64 (pE n)]) ∧ w = w' := by
 by_cases h0 : n < 0
 ·have e1 : pE n = 1 := by unfold pE; rw [if_neg (by omega)]
  have e2 : pV n = [] := by unfold pV; rw [if_neg (by omega)]
  rw [e1, e2, str_nil]
  clear e1 e2
  go_enter Tryz.func81, Tryz.ntmps81
  go_wp2_with fail
  go_ret2
  exact ⟨rfl, rfl⟩
 by_cases h1 : 1000000 < n
 ·have e1 : pE n = 1 := by unfold pE; rw [if_neg (by omega)]
  have e2 : pV n = [] := by unfold pV; rw [if_neg (by omega)]
  rw [e1, e2, str_nil]
  clear e1 e2
  go_enter Tryz.func81, Tryz.ntmps81
  go_wp2_with fail
  go_ret2
  exact ⟨rfl, rfl⟩
 obtain ⟨m, rfl⟩ : ∃ m : Nat, n = m := ⟨n.toNat, by omega⟩
 have e1 : pE (m : Int) = 0 := by unfold pE; rw [if_pos (by omega)]
 have e2 : pV (m : Int) = decDigits (m / 10000) ++ tl (fr (m % 10000)) ++ [37] := by
  unfold pV; rw [if_pos (by omega)]; rfl
 rw [e1, e2]
 have hq : (m : Int).tdiv 10000 = ((m / 10000 : Nat) : Int) := by rw [Int.tdiv_eq_ediv_of_nonneg (by omega)]; omega
 have hr : (m : Int).tmod 10000 = ((m % 10000 : Nat) : Int) := by rw [Int.tmod_eq_emod_of_nonneg (by omega)]; omega
 obtain ⟨Q, hQ⟩ : ∃ Q, m / 10000 = Q := ⟨_, rfl⟩
 obtain ⟨R, hR⟩ : ∃ R, m % 10000 = R := ⟨_, rfl⟩
 have hR4 : R < 10000 := by rw [← hR]; exact Nat.mod_lt _ (by decide)
 have hQ1 : Q ≤ 100 := by omega
 rw [hQ] at hq ⊢
 rw [hR] at hr ⊢
 have hwQ : wrap64 (Q : Int) = (Q : Int) := by unfold wrap64; omega
 have hwR : wrap64 (R : Int) = (R : Int) := by unfold wrap64; omega
 obtain ⟨q1, q2, q3, q4⟩ := wid_min Q hQ1
 have D1 := fun W => rdigits Q 1 (wid Q) q1 q2 q3 q4 (by omega) W
 rw [dec_wid Q hQ1] at D1
 have D2 := fun W => rdigits R 4 4 hR4 (Nat.le_refl _) (by omega) (fun j hj => Or.inr hj) (by omega) W
 obtain ⟨D, hD⟩ : ∃ D, str (decDigits Q) = D := ⟨_, rfl⟩
 have hDs : D.size ≤ 3 := by rw [← hD, str_size]; exact dec_len3 Q hQ1
 obtain ⟨P, hP⟩ : ∃ P, str (pd 4 R) = P := ⟨_, rfl⟩
 have hPs : P.size = 4 := by rw [← hP, str_size, pd_length]
 have hPt : trimRightB (byt P) 48 = fr R := by rw [← hP, byt_str]; rfl
 rw [hD] at D1
 rw [hP] at D2
 have HD1 := Lib.hid D1
 have HD2 := Lib.hid D2
 have HPS := Lib.hid hPs
 have HPT := Lib.hid hPt
 obtain ⟨V, hV⟩ : ∃ V, str (decDigits Q ++ tl (fr R) ++ [37]) = V := ⟨_, rfl⟩
 have HV0 : Hid (fr R = [] → V = D ++ ⟨#[37]⟩) := Lib.hid (fun h => by
  rw [← hV, ← hD, h]
  show _ = str (decDigits Q) ++ str [37]
  rw [str_app]; simp [tl])
 have HV1 : Hid (∀ F, str (fr R) = F → fr R ≠ [] → V = D ++ ⟨#[46]⟩ ++ F ++ ⟨#[37]⟩) := Lib.hid (fun F hF h => by
  rw [← hV, ← hD, ← hF]
  show _ = str (decDigits Q) ++ str [46] ++ str (fr R) ++ str [37]
  rw [str_app, str_app, str_app]
  unfold tl
  rw [if_neg h]; simp)
 rw [hV]
 clear e1 e2 hQ hR hR4 hQ1 q1 q2 q3 q4 D1 D2 hD hP hPs hPt hV
 go_enter Tryz.func81, Tryz.ntmps81
 go_wp2_with fail
 refine (HD1.out _).mono ?_
 rintro e w1 ⟨rfl, rfl⟩
 go_wp2_with fail
 refine (HD2.out _).mono ?_
 rintro e w1 ⟨rfl, rfl⟩
 go_wp2_with fail
 go_loopg [5] (4) (fun g x wr => ∃ S : ByteArray, x = .string S ∧ g = S.size ∧ S.size ≤ 4 ∧ trimRightB (byt S) 48 = fr R ∧ wr = w)
 case atStart => exact ⟨P, rfl, HPS.out.symm, by rw [HPS.out]; omega, HPT.out, rfl⟩
 case round =>
  obtain ⟨S, rfl, hg, hS4, hT, rfl⟩ := hrel
  have HG := Lib.hid hg
  have HT := Lib.hid hT
  clear hg hT
  by_cases hs0 : 0 < S.size
  ·have hs0z : (0 : Int) < (S.size : Int) := by omega
   have hne : S.toList.isEmpty = false := by
    rw [toList_data]
    show (byt S).isEmpty = false
    cases hb : byt S with
    | nil => rw [← byt_len, hb] at hs0; exact absurd hs0 (by decide)
    | cons c t => rfl
   have hw1 : wrap64 ((S.size : Int) - 1) = ((S.size - 1 : Nat) : Int) := by unfold wrap64; omega
   obtain ⟨q, hq⟩ : ∃ q, S.size - 1 = q := ⟨_, rfl⟩
   have hqlt : q < S.size := by omega
   rw [hq] at hw1
   have hqz : (q : Int) < (S.size : Int) := by omega
   have hqz2 : (q : Int) ≤ (S.size : Int) := by omega
   have hq0 : ¬ (q : Int) < 0 := by omega
   have hsn := byt_snoc S q (by omega)
   have hqs : (S.extract 0 q).size = q := by rw [ByteArray.size_extract]; omega
   by_cases h48 : (S[q].toNat : Int) = 48
   ·have hc := (u8_int S[q] 48 (by decide)).1 h48
    have HT2 : Hid (trimRightB (byt (S.extract 0 q)) 48 = fr R) := Lib.hid (by
     rw [← HT.out, hsn, hc]
     exact (trim_snoc _ 48).symm)
    have HQS := Lib.hid hqs
    clear hsn hc HT hqs
    go_wp2_with fail
    go_roundg q
    case measure => rw [HG.out]; exact hqlt
    case rel => exact ⟨S.extract 0 q, rfl, HQS.out.symm, by rw [HQS.out]; omega, HT2.out, rfl⟩
   ·have hlast : (byt S).getLast? ≠ some 48 := by
     rw [hsn, List.getLast?_append]
     simp only [List.getLast?_singleton, Option.some_or]
     intro e
     exact h48 ((u8_int S[q] 48 (by decide)).2 (Option.some.inj e))
    have hfr : fr R = byt S := by rw [← HT.out, trim_keep _ _ hlast]
    have HV := Lib.hid (HV1.out S (by rw [hfr, str_byt]) (by rw [hfr]; intro e; rw [← byt_len, e] at hs0; exact absurd hs0 (by decide)))
    have h48b : ((S[q].toNat : Int) == 48) = false := by rw [beq_eq_false_iff_ne]; exact h48
    clear hsn hlast hfr HT hqs
    go_wp2_with fail
    go_ret2
    exact ⟨by rw [HV.out]; rfl, rfl⟩
  ·have hs0z : ¬ (0 : Int) < (S.size : Int) := by omega
   have hb : byt S = [] := List.eq_nil_of_length_eq_zero (by rw [byt_len]; omega)
   have hne : S.toList.isEmpty = true := by
    rw [toList_data]
    show (byt S).isEmpty = true
    rw [hb]; rfl
   have HV := Lib.hid (HV0.out (by rw [← HT.out, hb]; rfl))
   clear hb HT
   go_wp2_with fail
   go_ret2
   exact ⟨by rw [HV.out]; rfl, rfl⟩

/-! ### The words -/
def WordsAt (b : Nat) (w : World) : Prop := b < w.heap.size ∧ ∀ i, i < 42 → w.cell? ⟨b, i, none⟩ = some (.string (str (wds.getD i [])))
theorem WordsAt.keep {b : Nat} {w w' : World} (h : WordsAt b w) (hb : Below w.heap.size w w') : WordsAt b w' :=
 ⟨by have := h.1; have := hb.size; omega, fun i hi => keepc hb (h.2 i hi)⟩
theorem words_new (w : World) : WordsAt w.heap.size (w.alloc (.cells (wds.map (fun x => Value.string (str x))).toArray 9)) := by
 refine ⟨by simp, fun i hi => ?_⟩
 rw [cell_of_row _ _ i _ _ (0, 0) (heap_alloc_new w _)]
 have hl : wds.length = 42 := rfl
 simp [List.getD, hl, hi]
set_option maxRecDepth 100000 in
set_option maxHeartbeats 2000000 in
theorem rwords (w : World) :
  Calls Tryz.prog 85 #[] w fun e w' => e = .returned (.slice (some ⟨w.heap.size, 0, none⟩) 42 42) ∧ WordsAt w.heap.size w' ∧ Below w.heap.size w w' := by
 have hnew := words_new w
 have hb := bal (bref w) (.cells (wds.map (fun x => Value.string (str x))).toArray 9)
 go_enter Tryz.func85, Tryz.ntmps85
 go_wp2_with fail
 go_ret
 exact ⟨rfl, hnew, hb⟩
set_option maxRecDepth 100000 in
set_option maxHeartbeats 2000000 in
theorem rword (s : ByteArray) (w : World) :
  Calls Tryz.prog 68 #[.string s] w fun e w' => e = .returned (.bool (wrd (byt s))) ∧ Below w.heap.size w w' := by
 have RW := Lib.hid (rwords w)
 obtain ⟨R, hR⟩ : ∃ R, wrd (byt s) = R := ⟨_, rfl⟩
 have HR := Lib.hid hR
 rw [hR]
 clear hR
 go_enter Tryz.func68, Tryz.ntmps68
 go_wp2_with fail
 refine RW.out.mono ?_
 rintro e w1 ⟨rfl, hW, q1⟩
 have HW := Lib.hid hW
 have Q1 := Lib.hid q1
 have hb := hW.1
 clear hW q1
 go_wp2_with fail
 go_loop [4] (fun i => ∃ (k : Nat), k ≤ 42 ∧ i = .int .i64 k ∧ (wds.take k).contains (byt s) = false) (fun i => 42 - (RowKit.intOf i).toNat)
 case atStart => exact ⟨0, by omega, rfl, rfl⟩
 case round =>
  obtain ⟨k, hk, rfl, hA⟩ := hrel
  have HA := Lib.hid hA
  clear hA
  by_cases hlt : k < 42
  ·have c0 := HW.out.2 k hlt
   have hl : wds.length = 42 := rfl
   have ht : wds.take (k + 1) = wds.take k ++ [wds.getD k []] := by
    rw [List.take_succ_eq_append_getElem (by omega)]
    simp [List.getD, hl, hlt]
   have hm : wds.getD k [] ∈ wds := by
    have : wds.getD k [] = wds[k]'(by omega) := by simp [List.getD, hl, hlt]
    rw [this]; exact List.getElem_mem _
   obtain ⟨x, hx⟩ : ∃ x, wds.getD k [] = x := ⟨_, rfl⟩
   rw [hx] at c0 ht hm
   obtain ⟨X, hX⟩ : ∃ X, str x = X := ⟨_, rfl⟩
   have hXx : byt X = x := by rw [← hX, byt_str]
   rw [hX] at c0
   have hkz : (k : Int) < 42 := by omega
   cases hq : (X.toList == s.toList)
   ·have hne : x ≠ byt s := by
     rw [beq_eq_false_iff_ne, toList_data, toList_data] at hq
     rw [← hXx]; exact hq
    have HA2 : Hid ((wds.take (k + 1)).contains (byt s) = false) := Lib.hid (by
     have h1 := HA.out
     rw [ht]
     rw [List.contains_eq_mem, decide_eq_false_iff_not] at h1 ⊢
     rw [List.mem_append, List.mem_singleton]
     rintro (h | h)
     ·exact h1 h
     ·exact hne h.symm)
    clear hl ht hm hx hX hXx hne
    go_wp2_with fail
    go_round
    case rel => exact ⟨k + 1, by omega, by go_num, HA2.out⟩
    case measure => simp [RowKit.intOf]; omega
   ·have he : x = byt s := by
     have := eq_of_beq hq
     rw [toList_data, toList_data] at this
     rw [← hXx]; exact this
    have HQ : Hid (R = true) := Lib.hid (by
     rw [← HR.out]
     unfold wrd
     rw [List.contains_eq_mem, decide_eq_true_eq, ← he]; exact hm)
    clear hl ht hm hx hX hXx he
    go_wp2_with fail
    go_ret
    exact ⟨by rw [HQ.out]; rfl, Q1.out⟩
  ·have he : k = 42 := by omega
   subst he
   have HQ : Hid (R = false) := Lib.hid (by rw [← HR.out]; exact HA.out)
   go_wp2_with fail
   go_ret
   exact ⟨by rw [HQ.out]; rfl, Q1.out⟩
end Go.Proofs.YtplkphihmfhciaaGreatDoor
