/-
  The walk of the document's own Parse of an amount.
-/
import Derived.Test.YtkijbckpfcfcpabDoorMRefP
namespace Go.Proofs.YtkijbckpfcfcpabDoor
open Go Go.RowKit Go.Lib WM

/-- How the text begins: a minus sign and U behind it, or U alone. -/
def Pre (s U : ByteArray) (G : Bool) : Prop := (G = true ∧ ∃ h : 0 < s.size, s[0] = 45 ∧ s.extract 1 s.size = U) ∨ (G = false ∧ U = s ∧ ∃ h : 0 < s.size, s[0] ≠ 45) ∨ (G = false ∧ U = s ∧ s.size = 0)
theorem pre_any (s : ByteArray) : ∃ U, Pre s U (isNeg s.data.toList) ∧ digs s.data.toList = U.data.toList := by
  have hsz := size_list s
  cases hl : s.data.toList with
  | nil =>
    rw [hl] at hsz
    exact ⟨s, Or.inr (Or.inr ⟨rfl, rfl, hsz.symm⟩), by rw [hl]; rfl⟩
  | cons c t =>
    rw [hl] at hsz
    have hpos : 0 < s.size := by rw [← hsz]; simp
    have hc : s[0] = c := by
      have : s[0] = s.data.toList[0]'(by rw [hl]; simp) := rfl
      rw [this]; simp [hl]
    by_cases h : c = 45
    · subst h
      obtain ⟨n1, n2⟩ := neg_cons t
      refine ⟨s.extract 1 s.size, Or.inl ⟨n1, hpos, hc, rfl⟩, ?_⟩
      rw [n2, str_cut, str_list, hl, List.take_of_length_le (by rw [hsz]; omega)]; rfl
    · have hn : hasPrefix (c :: t) [45] = false := by
        show ((45 : UInt8) == c && List.isPrefixOf [] t) = false
        have : ((45 : UInt8) == c) = false := by rw [beq_eq_false_iff_ne]; exact fun e => h e.symm
        rw [this]; rfl
      obtain ⟨n1, n2⟩ := neg_no _ hn
      exact ⟨s, Or.inr (Or.inl ⟨n1, rfl, hpos, by rw [hc]; exact h⟩), by rw [n2, hl]⟩


set_option maxRecDepth 100000 in
set_option maxHeartbeats 4000000 in
/-- No room for the whole part. -/
theorem rparse_short (s U : ByteArray) (G : Bool) (d : Nat) (hd : d ≤ 4) (hs : s.size ≤ 1000000) (hP : Pre s U G) (hW : (d = 0 ∧ U.size = 0) ∨ (1 ≤ d ∧ (U.size : Int) - d - 1 < 1)) (w : World) :
    Calls Tryd.prog 26 #[.string s, .int .i64 d] w fun e w' => e = .returned (.tuple #[.int .i64 0, .int .i64 2]) ∧ w = w' := by
  have hd1 : ¬ (d : Int) < 0 := by omega
  have hd2 : ¬ (4 : Int) < (d : Int) := by omega
  have hUs : U.size ≤ 1000000 := by
    rcases hP with ⟨_, _, _, e⟩ | ⟨_, rfl, _⟩ | ⟨_, rfl, _⟩
    · rw [← e, ByteArray.size_extract]; omega
    · exact hs
    · exact hs
  rcases hP with ⟨rfl, h0, h1, h2⟩ | ⟨rfl, h2, h0, h1⟩ | ⟨rfl, h2, h0⟩
  · have h0z : (0 : Int) < (s.size : Int) := by omega
    have h45 : ((s[0].toNat : Int) == 45) = true := by rw [h1]; rfl
    have h45' : (s[0].toNat : Int) = 45 := by rw [h1]; rfl
    have h1z : (1 : Int) ≤ (s.size : Int) := by omega
    clear h1
    rcases hW with ⟨rfl, hw⟩ | ⟨hdp, hw⟩
    · have hwz : (U.size : Int) < 1 := by omega
      clear hw
      go_enter Tryd.func26, Tryd.ntmps26
      go_wp2_with fail
      go_ret2
      exact ⟨rfl, rfl⟩
    · have hdz : (0 : Int) < (d : Int) := by omega
      have hwa : wrap64 ((U.size : Int) - d) = (U.size : Int) - d := by unfold wrap64; omega
      have hwb : wrap64 ((U.size : Int) - d - 1) = (U.size : Int) - d - 1 := by unfold wrap64; omega
      go_enter Tryd.func26, Tryd.ntmps26
      go_wp2_with fail
      go_ret2
      exact ⟨rfl, rfl⟩
  · subst h2
    have h0z : (0 : Int) < (U.size : Int) := by omega
    have h45' : ¬ (U[0].toNat : Int) = 45 := by
      intro h; apply h1
      apply UInt8.toNat_inj.1
      rw [show (45 : UInt8).toNat = 45 from rfl]; omega
    have h45 : ((U[0].toNat : Int) == 45) = false := by rw [beq_eq_false_iff_ne]; exact h45'
    clear h1
    rcases hW with ⟨rfl, hw⟩ | ⟨hdp, hw⟩
    · omega
    · have hdz : (0 : Int) < (d : Int) := by omega
      have hwa : wrap64 ((U.size : Int) - d) = (U.size : Int) - d := by unfold wrap64; omega
      have hwb : wrap64 ((U.size : Int) - d - 1) = (U.size : Int) - d - 1 := by unfold wrap64; omega
      go_enter Tryd.func26, Tryd.ntmps26
      go_wp2_with fail
      go_ret2
      exact ⟨rfl, rfl⟩
  · subst h2
    have h0z : (U.size : Int) = 0 := by omega
    have h0n : ¬ (0 : Int) < (U.size : Int) := by omega
    clear h0
    rcases hW with ⟨rfl, hw⟩ | ⟨hdp, hw⟩
    · clear hw
      go_enter Tryd.func26, Tryd.ntmps26
      go_wp2_with fail
      go_ret2
      exact ⟨rfl, rfl⟩
    · have hdz : (0 : Int) < (d : Int) := by omega
      have hwa : wrap64 (0 - (d : Int)) = 0 - (d : Int) := by unfold wrap64; omega
      have hwb : wrap64 (0 - (d : Int) - 1) = 0 - (d : Int) - 1 := by unfold wrap64; omega
      have hwc : wrap64 (-(d : Int)) = -(d : Int) := by unfold wrap64; omega
      have hwd : wrap64 (-(d : Int) - 1) = -(d : Int) - 1 := by unfold wrap64; omega
      clear hw
      go_enter Tryd.func26, Tryd.ntmps26
      go_wp2_with fail
      go_ret2
      exact ⟨rfl, rfl⟩


theorem At.le {u : List UInt8} {d p : Nat} (h : At u d p) : p ≤ u.length := by rcases h with ⟨_, e⟩ | ⟨_, e⟩ <;> omega
theorem dval_pos_step (V : Nat) (d : Nat) : (V ≠ 0 → V * 10 + d ≠ 0) ∧ (1000000000000 < V → 1000000000000 < V * 10 + d) := by omega
theorem q0 : ¬ 1000000000000 < 0 * 10 + 0 := by omega
theorem q1 {c : Nat} (h : c ≠ 0) : 0 * 10 + c ≠ 0 := by omega
theorem q2 {c : Nat} (h : (c : Int) ≤ 9) : ¬ 1000000000000 < 0 * 10 + c := by omega
theorem q3 {V c : Nat} (h : V ≠ 0) : V * 10 + c ≠ 0 := by omega
theorem q4 {V c : Nat} (h : V * 10 + c ≤ 1000000000000) : ¬ 1000000000000 < V * 10 + c := by omega
theorem q5 {V c : Nat} (h : 1000000000000 < V) : 1000000000000 < V * 10 + c := by omega
theorem q6 {V c : Nat} {nv ci : Int} (hn : nv = V) (hc : (c : Int) = ci) : 10 * nv + ci = ((V * 10 + c : Nat) : Int) := by omega
theorem q7 {V : Nat} (h : 1000000000000 < V) : V ≠ 0 := by omega
theorem w1l {V : Nat} {nv : Int} (h : V ≤ 1000000000000) (hn : nv = V) : wrap64 (10 * nv) = 10 * nv := by unfold wrap64; omega
theorem w2l {V : Nat} {nv c : Int} (h : V ≤ 1000000000000) (hn : nv = V) (h0 : 0 ≤ c) (hc : c ≤ 9) : wrap64 (10 * nv + c) = 10 * nv + c := by unfold wrap64; omega
theorem ngl {V c : Nat} {nv ci : Int} (h : V * 10 + c ≤ 1000000000000) (hn : nv = V) (hc : (c : Int) = ci) : ¬ (1000000000000 : Int) < 10 * nv + ci := by omega
theorem gl {V c : Nat} {nv ci : Int} (h : 1000000000000 < V * 10 + c) (hn : nv = V) (hc : (c : Int) = ci) : (1000000000000 : Int) < 10 * nv + ci := by omega
theorem wnl {V : Nat} {nv : Int} (h : V ≤ 1000000000000) (hn : nv = V) : wrap64 (-nv) = -nv := by unfold wrap64; omega
theorem meas_step {n k : Nat} (h : k < n) : n - (RowKit.intOf (.int .i64 ((k : Int) + 1))).toNat < n - (RowKit.intOf (.int .i64 (k : Int))).toNat := by
  simp [RowKit.intOf]; omega
theorem head_of (U : ByteArray) (h : 0 < U.size) : ∃ t, U.data.toList = U[0] :: t := by
  have hsz := size_list U
  cases hl : U.data.toList with
  | nil => rw [hl] at hsz; simp at hsz; omega
  | cons c t =>
    have : U[0] = U.data.toList[0]'(by rw [hl]; simp) := rfl
    exact ⟨t, by rw [this]; simp [hl]⟩


set_option maxRecDepth 100000 in
set_option maxHeartbeats 8000000 in
theorem rparse_n0 (s U : ByteArray) (RV RE : Int) (h0 : 0 < s.size) (h1 : s[0] = 45) (h2 : s.extract 1 s.size = U) (hUs : U.size ≤ 1000000) (hss : s.size ≤ 1000000) (hAt : At U.data.toList 0 U.size) (hp1 : 1 ≤ U.size)
    (A1 : pOk U.data.toList 0 = false → RE = 2 ∧ RV = 0) (A2 : pOk U.data.toList 0 = true → true = true → pNum U.data.toList 0 = 0 → RE = 2 ∧ RV = 0) (A3 : pOk U.data.toList 0 = true → 1000000000000 < pNum U.data.toList 0 → RE = 6 ∧ RV = 0)
    (A4 : pOk U.data.toList 0 = true → (true && pNum U.data.toList 0 == 0) = false → pNum U.data.toList 0 ≤ 1000000000000 → RE = 0 ∧ RV = signed true (pNum U.data.toList 0)) (w : World) :
    Calls Tryd.prog 26 #[.string s, .int .i64 0] w fun e w' => e = .returned (.tuple #[.int .i64 RV, .int .i64 RE]) ∧ w = w' := by
  have hU0 : 0 < U.size := by have := hAt.le; rw [size_list] at this; omega
  obtain ⟨tl, htl⟩ := head_of U hU0
  have hU0z : (0 : Int) < (U.size : Int) := by omega
  have h0z : (0 : Int) < (s.size : Int) := by omega
  have h1z : (1 : Int) ≤ (s.size : Int) := by omega
  have h45 : ((s[0].toNat : Int) == 45) = true := by rw [h1]; rfl
  have h45n : (s[0].toNat : Int) = 45 := by rw [h1]; rfl
  clear h1
  have hpU : 0 = 0 := rfl
  have hW1 : ¬ (U.size : Int) < 1 := by omega
  have A1 := Lib.hid A1; have A2 := Lib.hid A2; have A3 := Lib.hid A3; have A4 := Lib.hid A4
  have HPU := Lib.hid hpU
  have HAT := Lib.hid hAt
  by_cases h48 : U[0] = 48
  · have e48 : ((U[0].toNat : Int) == 48) = true := by rw [h48]; rfl
    have e48n : (U[0].toNat : Int) = 48 := by rw [h48]; rfl
    by_cases hp : 1 < U.size
    · have HSY := Lib.hid (A1.out (ok_zero hAt hp _ _ htl h48))
      have hpz : (1 : Int) < (U.size : Int) := by omega
      clear A1 A2 A3 A4 htl hAt h48 hpU
      go_enter Tryd.func26, Tryd.ntmps26
      go_wp2_with fail
      go_ret2
      exact ⟨by rw [HSY.out.1, HSY.out.2]; rfl, rfl⟩
    · have HSH := Lib.hid (short_ok hAt hp1 _ _ htl (Or.inr (by omega)))
      have hpz : ¬ (1 : Int) < (U.size : Int) := by omega
      clear htl hAt h48 hpU
      go_enter Tryd.func26, Tryd.ntmps26
      go_wp2_with fail
      go_loop [9, 10, 11, 12] (fun n sm lg i => ∃ (k : Nat) (nv : Int) (bs bl : Bool), k ≤ U.size ∧ i = .int .i64 k ∧ n = .int .i64 nv ∧ sm = .bool bs ∧ lg = .bool bl ∧ allDig (Dk U.data.toList U.size k) = true ∧ (U.size < k → ∃ h : U.size < U.size, U[U.size] = 46) ∧ (bs = true ↔ dval (Dk U.data.toList U.size k) ≠ 0) ∧ (bl = true ↔ 1000000000000 < dval (Dk U.data.toList U.size k)) ∧ (bl = false → nv = dval (Dk U.data.toList U.size k))) (fun _ _ _ i => U.size - (RowKit.intOf i).toNat)
      case atStart =>
        have e0 : Dk U.data.toList U.size 0 = [] := by unfold Dk; simp
        refine ⟨0, 0, false, false, by omega, rfl, rfl, rfl, rfl, by rw [e0]; rfl, fun h => absurd h (Nat.not_lt_zero _), by rw [e0]; exact ⟨fun h => absurd h (by decide), fun h => absurd rfl h⟩, by rw [e0, show dval [] = 0 from rfl]; exact ⟨fun h => absurd h (by decide), fun h => by omega⟩, fun _ => by rw [e0]; rfl⟩
      case round =>
        obtain ⟨k, nv, bs, bl, hk, rfl, rfl, rfl, rfl, hall, hdot, hbs, hbl, hnv⟩ := hrel
        obtain ⟨V, hV⟩ : ∃ V, dval (Dk U.data.toList U.size k) = V := ⟨_, rfl⟩
        rw [hV] at hbs hbl hnv
        have HA := Lib.hid hall; have HV := Lib.hid hV; have HD := Lib.hid hdot
        clear hall hV hdot
        by_cases hlt : k < U.size
        · have hkz : (k : Int) < (U.size : Int) := by omega
          have hkl : k < U.data.toList.length := by rw [size_list]; exact hlt
          by_cases hkp : k = U.size
          · exfalso; omega
          · have ekp : ((k : Int) == (U.size : Int)) = false := by rw [beq_eq_false_iff_ne]; omega
            have ekn : ¬ (k : Int) = (U.size : Int) := by omega
            cases hc : dig U[k]
            · have HSY := Lib.hid (A1.out (ok_nodig HAT.out hkl hkp hc))
              simp only [dig, decide_eq_false_iff_not] at hc
              clear hbs hbl hnv A1 A2 A3 A4
              by_cases h48 : (U[k].toNat : Int) < 48
              · have hd1 : decide ((U[k].toNat : Int) < 48) = true := by simpa using h48
                clear hc
                go_wp2_with fail
                go_ret2
                exact ⟨by rw [HSY.out.1, HSY.out.2]; rfl, rfl⟩
              · have h57 : (57 : Int) < (U[k].toNat : Int) := by omega
                have hd1 : decide ((U[k].toNat : Int) < 48) = false := by simpa using h48
                have hd2 : decide ((57 : Int) < (U[k].toNat : Int)) = true := by simpa using h57
                clear hc
                go_wp2_with fail
                go_ret2
                exact ⟨by rw [HSY.out.1, HSY.out.2]; rfl, rfl⟩
            · have hst := Dk_step U.data.toList U.size k hkl hkp
              rw [getU U k hlt] at hst
              have hall2 : allDig (Dk U.data.toList U.size (k + 1)) = true := by rw [hst, allDig_snoc, HA.out, hc]; rfl
              have hval2 : dval (Dk U.data.toList U.size (k + 1)) = V * 10 + (U[k].toNat - 48) := by rw [hst, dval_snoc, HV.out]
              have hdot2 : U.size < k + 1 → ∃ h : U.size < U.size, U[U.size] = 46 := fun h => HD.out (by omega)
              simp only [dig, decide_eq_true_eq] at hc
              obtain ⟨c, hcd⟩ : ∃ c : Nat, (U[k].toNat : Int) - 48 = (c : Int) := ⟨U[k].toNat - 48, by omega⟩
              obtain ⟨ci, hci⟩ : ∃ ci : Int, (c : Int) = ci := ⟨_, rfl⟩
              have hc9 : ci ≤ 9 := by omega
              have hc0 : (0 : Int) ≤ ci := by omega
              have hcn : U[k].toNat - 48 = c := by omega
              rw [hcn] at hval2
              have hw8 : IntKind.u8.wrap ((U[k].toNat : Int) - 48) = ci := by rw [IntKind.wrap_u8]; omega
              have hw64 : IntKind.i64.wrap ci = ci := by rw [IntKind.wrap_i64]; omega
              have hd1 : decide ((U[k].toNat : Int) < 48) = false := by simp; omega
              have hd2 : decide ((57 : Int) < (U[k].toNat : Int)) = false := by simp; omega
              have hd3 : ¬ (U[k].toNat : Int) < 48 := by omega
              have hd4 : ¬ (57 : Int) < (U[k].toNat : Int) := by omega
              have HA2 := Lib.hid hall2; have HV2 := Lib.hid hval2; have HD2 := Lib.hid hdot2
              have HCN := Lib.hid hcd; have HCI := Lib.hid hci
              clear hst hall2 hval2 hdot2 hcn hcd hc hci
              have hb4 : (bs = false ∧ bl = false ∧ V = 0 ∧ c = 0) ∨ (bs = false ∧ bl = false ∧ V = 0 ∧ c ≠ 0) ∨ (bs = true ∧ bl = false ∧ V ≠ 0 ∧ V ≤ 1000000000000 ∧ V * 10 + c ≤ 1000000000000) ∨ (bs = true ∧ bl = false ∧ V ≠ 0 ∧ V ≤ 1000000000000 ∧ 1000000000000 < V * 10 + c) ∨ (bs = true ∧ bl = true ∧ 1000000000000 < V) := by
                by_cases z : V = 0
                · have e1 : bs = false := Bool.eq_false_iff.2 (fun h => hbs.1 h z)
                  have e2 : bl = false := Bool.eq_false_iff.2 (fun h => by have := hbl.1 h; omega)
                  by_cases cz : c = 0
                  · exact Or.inl ⟨e1, e2, z, cz⟩
                  · exact Or.inr (Or.inl ⟨e1, e2, z, cz⟩)
                · have e1 : bs = true := hbs.2 z
                  by_cases b : 1000000000000 < V
                  · exact Or.inr (Or.inr (Or.inr (Or.inr ⟨e1, hbl.2 b, b⟩)))
                  · have e2 : bl = false := Bool.eq_false_iff.2 (fun h => by have := hbl.1 h; omega)
                    by_cases b2 : 1000000000000 < V * 10 + c
                    · exact Or.inr (Or.inr (Or.inr (Or.inl ⟨e1, e2, z, by omega, b2⟩)))
                    · exact Or.inr (Or.inr (Or.inl ⟨e1, e2, z, by omega, by omega⟩))
              clear hbs hbl
              rcases hb4 with ⟨rfl, rfl, rfl, rfl⟩ | ⟨rfl, rfl, rfl, hcz⟩ | ⟨rfl, rfl, hv0, hv1, hv2⟩ | ⟨rfl, rfl, hv0, hv1, hv2⟩ | ⟨rfl, rfl, hv1⟩
              · obtain rfl : nv = 0 := by have := hnv rfl; omega
                obtain rfl : ci = 0 := by have := HCI.out; omega
                have e48 : (U[k].toNat : Int) = 48 := by have := HCN.out; omega
                have e48b : ((U[k].toNat : Int) != 48) = false := by rw [e48]; rfl
                clear hnv
                go_wp2_with fail
                go_round
                case rel => exact ⟨k + 1, 0, false, false, hlt, by go_num, rfl, rfl, rfl, HA2.out, HD2.out, by rw [HV2.out]; exact ⟨fun h => absurd h (by decide), fun h => absurd rfl h⟩, by rw [HV2.out]; exact ⟨fun h => absurd h (by decide), fun h => absurd h q0⟩, fun _ => by rw [HV2.out]; rfl⟩
                case measure => exact meas_step hlt
              · obtain rfl : nv = 0 := by have := hnv rfl; omega
                have e48 : ¬ (U[k].toNat : Int) = 48 := by have := HCN.out; omega
                have e48b : ((U[k].toNat : Int) != 48) = true := by rw [bne_iff_ne]; exact e48
                have hcb : ¬ (1000000000000 : Int) < ci := by omega
                have hwc : wrap64 ci = ci := by unfold wrap64; omega
                have HC9 := Lib.hid (show (c : Int) ≤ 9 by have := HCI.out; omega)
                clear hnv
                go_wp2_with fail
                go_round
                case rel => exact ⟨k + 1, ci, true, false, hlt, by go_num, rfl, rfl, rfl, HA2.out, HD2.out, by rw [HV2.out]; exact ⟨fun _ => q1 hcz, fun _ => rfl⟩, by rw [HV2.out]; exact ⟨fun h => absurd h (by decide), fun h => absurd h (q2 HC9.out)⟩, fun _ => by rw [HV2.out, Nat.zero_mul, Nat.zero_add]; exact HCI.out.symm⟩
                case measure => exact meas_step hlt
              · have HN := Lib.hid (hnv rfl)
                have w1 : wrap64 (10 * nv) = 10 * nv := w1l hv1 HN.out
                have w2 : wrap64 (10 * nv + ci) = 10 * nv + ci := w2l hv1 HN.out hc0 hc9
                have hng : ¬ (1000000000000 : Int) < 10 * nv + ci := ngl hv2 HN.out HCI.out
                have V0 := Lib.hid hv0; have V1 := Lib.hid hv1; have V2 := Lib.hid hv2; have HKP := Lib.hid hkp
                clear hnv hv0 hv1 hv2 hkp HCN HD HA
                go_wp2_with fail
                go_round
                case rel => exact ⟨k + 1, 10 * nv + ci, true, false, hlt, by go_num, by first | rfl | rw [w2], rfl, rfl, HA2.out, HD2.out, by rw [HV2.out]; exact ⟨fun _ => q3 V0.out, fun _ => rfl⟩, by rw [HV2.out]; exact ⟨fun h => absurd h (by decide), fun h => absurd h (q4 V2.out)⟩, fun _ => by rw [HV2.out]; exact q6 HN.out HCI.out⟩
                case measure => exact meas_step hlt
              · have HN := Lib.hid (hnv rfl)
                have w1 : wrap64 (10 * nv) = 10 * nv := w1l hv1 HN.out
                have w2 : wrap64 (10 * nv + ci) = 10 * nv + ci := w2l hv1 HN.out hc0 hc9
                have hng : (1000000000000 : Int) < 10 * nv + ci := gl hv2 HN.out HCI.out
                have V0 := Lib.hid hv0; have V1 := Lib.hid hv1; have V2 := Lib.hid hv2; have HKP := Lib.hid hkp
                clear hnv hv0 hv1 hv2 hkp HCN HD HA
                go_wp2_with fail
                go_round
                case rel => exact ⟨k + 1, 10 * nv + ci, true, true, hlt, by go_num, by first | rfl | rw [w2], rfl, rfl, HA2.out, HD2.out, by rw [HV2.out]; exact ⟨fun _ => q3 V0.out, fun _ => rfl⟩, by rw [HV2.out]; exact ⟨fun _ => V2.out, fun _ => rfl⟩, fun h => absurd h (by decide)⟩
                case measure => exact meas_step hlt
              · have V1 := Lib.hid hv1
                clear hnv hv1 hkp HCN HD HA
                go_wp2_with fail
                go_round
                case rel => exact ⟨k + 1, nv, true, true, hlt, by go_num, rfl, rfl, rfl, HA2.out, HD2.out, by rw [HV2.out]; exact ⟨fun _ => q3 (q7 V1.out), fun _ => rfl⟩, by rw [HV2.out]; exact ⟨fun _ => q5 V1.out, fun _ => rfl⟩, fun h => absurd h (by decide)⟩
                case measure => exact meas_step hlt
        · have he : k = U.size := by omega
          subst he
          obtain ⟨hok, hnum⟩ := ok_yes HAT.out HSH.out (by rw [size_list]; exact HA.out) (fun h => by rw [size_list] at h; obtain ⟨h1, h2⟩ := HD.out h; rw [← h2]; simp [List.getD, h1, ← getU])
          rw [size_list, HV.out] at hnum
          have A2 := A2.out hok; have A3 := A3.out hok; have A4 := A4.out hok
          rw [hnum] at A2 A3 A4
          clear A1 hok hnum
          have hb3 : (bs = false ∧ bl = false ∧ V = 0) ∨ (bs = true ∧ bl = false ∧ V ≠ 0 ∧ V ≤ 1000000000000) ∨ (bs = true ∧ bl = true ∧ 1000000000000 < V) := by
            by_cases z : V = 0
            · exact Or.inl ⟨Bool.eq_false_iff.2 (fun h => hbs.1 h z), Bool.eq_false_iff.2 (fun h => by have := hbl.1 h; omega), z⟩
            · have e1 : bs = true := hbs.2 z
              by_cases b : 1000000000000 < V
              · exact Or.inr (Or.inr ⟨e1, hbl.2 b, b⟩)
              · exact Or.inr (Or.inl ⟨e1, Bool.eq_false_iff.2 (fun h => by have := hbl.1 h; omega), z, by omega⟩)
          clear hbs hbl
          rcases hb3 with ⟨rfl, rfl, rfl⟩ | ⟨rfl, rfl, hv0, hv1⟩ | ⟨rfl, rfl, hv1⟩
          · obtain rfl : nv = 0 := by have := hnv rfl; omega
            have HSY := Lib.hid (A2 (by first | rfl | trivial) (by first | rfl | trivial))
            clear A2 A3 A4 hnv
            go_wp2_with fail
            go_ret2
            exact ⟨by rw [HSY.out.1, HSY.out.2]; rfl, rfl⟩
          · have HN := Lib.hid (hnv rfl)
            have HS0 := A4 (by rw [show (V == 0) = false by rw [beq_eq_false_iff_ne]; exact hv0, Bool.and_false]) hv1
            have HSY : Hid (RE = 0 ∧ RV = -nv) := Lib.hid (by rw [HS0.1, HS0.2, HN.out]; unfold signed; rw [if_pos rfl]; exact ⟨rfl, rfl⟩)
            clear HS0
            have wn : wrap64 (-nv) = -nv := wnl hv1 HN.out
            clear A2 A3 A4 hnv
            go_wp2_with fail
            go_ret2
            exact ⟨by rw [HSY.out.1, HSY.out.2]; rfl, rfl⟩
          · have HSY := Lib.hid (A3 hv1)
            clear A2 A3 A4 hnv
            go_wp2_with fail
            go_ret2
            exact ⟨by rw [HSY.out.1, HSY.out.2]; rfl, rfl⟩
  · have HSH := Lib.hid (short_ok hAt hp1 _ _ htl (Or.inl h48))
    have e48n : ¬ (U[0].toNat : Int) = 48 := by
      intro h; apply h48; apply UInt8.toNat_inj.1; rw [show (48 : UInt8).toNat = 48 from rfl]; omega
    have e48 : ((U[0].toNat : Int) == 48) = false := by rw [beq_eq_false_iff_ne]; exact e48n
    clear htl hAt h48 hpU
    go_enter Tryd.func26, Tryd.ntmps26
    go_wp2_with fail
    go_loop [9, 10, 11, 12] (fun n sm lg i => ∃ (k : Nat) (nv : Int) (bs bl : Bool), k ≤ U.size ∧ i = .int .i64 k ∧ n = .int .i64 nv ∧ sm = .bool bs ∧ lg = .bool bl ∧ allDig (Dk U.data.toList U.size k) = true ∧ (U.size < k → ∃ h : U.size < U.size, U[U.size] = 46) ∧ (bs = true ↔ dval (Dk U.data.toList U.size k) ≠ 0) ∧ (bl = true ↔ 1000000000000 < dval (Dk U.data.toList U.size k)) ∧ (bl = false → nv = dval (Dk U.data.toList U.size k))) (fun _ _ _ i => U.size - (RowKit.intOf i).toNat)
    case atStart =>
      have e0 : Dk U.data.toList U.size 0 = [] := by unfold Dk; simp
      refine ⟨0, 0, false, false, by omega, rfl, rfl, rfl, rfl, by rw [e0]; rfl, fun h => absurd h (Nat.not_lt_zero _), by rw [e0]; exact ⟨fun h => absurd h (by decide), fun h => absurd rfl h⟩, by rw [e0, show dval [] = 0 from rfl]; exact ⟨fun h => absurd h (by decide), fun h => by omega⟩, fun _ => by rw [e0]; rfl⟩
    case round =>
      obtain ⟨k, nv, bs, bl, hk, rfl, rfl, rfl, rfl, hall, hdot, hbs, hbl, hnv⟩ := hrel
      obtain ⟨V, hV⟩ : ∃ V, dval (Dk U.data.toList U.size k) = V := ⟨_, rfl⟩
      rw [hV] at hbs hbl hnv
      have HA := Lib.hid hall; have HV := Lib.hid hV; have HD := Lib.hid hdot
      clear hall hV hdot
      by_cases hlt : k < U.size
      · have hkz : (k : Int) < (U.size : Int) := by omega
        have hkl : k < U.data.toList.length := by rw [size_list]; exact hlt
        by_cases hkp : k = U.size
        · exfalso; omega
        · have ekp : ((k : Int) == (U.size : Int)) = false := by rw [beq_eq_false_iff_ne]; omega
          have ekn : ¬ (k : Int) = (U.size : Int) := by omega
          cases hc : dig U[k]
          · have HSY := Lib.hid (A1.out (ok_nodig HAT.out hkl hkp hc))
            simp only [dig, decide_eq_false_iff_not] at hc
            clear hbs hbl hnv A1 A2 A3 A4
            by_cases h48 : (U[k].toNat : Int) < 48
            · have hd1 : decide ((U[k].toNat : Int) < 48) = true := by simpa using h48
              clear hc
              go_wp2_with fail
              go_ret2
              exact ⟨by rw [HSY.out.1, HSY.out.2]; rfl, rfl⟩
            · have h57 : (57 : Int) < (U[k].toNat : Int) := by omega
              have hd1 : decide ((U[k].toNat : Int) < 48) = false := by simpa using h48
              have hd2 : decide ((57 : Int) < (U[k].toNat : Int)) = true := by simpa using h57
              clear hc
              go_wp2_with fail
              go_ret2
              exact ⟨by rw [HSY.out.1, HSY.out.2]; rfl, rfl⟩
          · have hst := Dk_step U.data.toList U.size k hkl hkp
            rw [getU U k hlt] at hst
            have hall2 : allDig (Dk U.data.toList U.size (k + 1)) = true := by rw [hst, allDig_snoc, HA.out, hc]; rfl
            have hval2 : dval (Dk U.data.toList U.size (k + 1)) = V * 10 + (U[k].toNat - 48) := by rw [hst, dval_snoc, HV.out]
            have hdot2 : U.size < k + 1 → ∃ h : U.size < U.size, U[U.size] = 46 := fun h => HD.out (by omega)
            simp only [dig, decide_eq_true_eq] at hc
            obtain ⟨c, hcd⟩ : ∃ c : Nat, (U[k].toNat : Int) - 48 = (c : Int) := ⟨U[k].toNat - 48, by omega⟩
            obtain ⟨ci, hci⟩ : ∃ ci : Int, (c : Int) = ci := ⟨_, rfl⟩
            have hc9 : ci ≤ 9 := by omega
            have hc0 : (0 : Int) ≤ ci := by omega
            have hcn : U[k].toNat - 48 = c := by omega
            rw [hcn] at hval2
            have hw8 : IntKind.u8.wrap ((U[k].toNat : Int) - 48) = ci := by rw [IntKind.wrap_u8]; omega
            have hw64 : IntKind.i64.wrap ci = ci := by rw [IntKind.wrap_i64]; omega
            have hd1 : decide ((U[k].toNat : Int) < 48) = false := by simp; omega
            have hd2 : decide ((57 : Int) < (U[k].toNat : Int)) = false := by simp; omega
            have hd3 : ¬ (U[k].toNat : Int) < 48 := by omega
            have hd4 : ¬ (57 : Int) < (U[k].toNat : Int) := by omega
            have HA2 := Lib.hid hall2; have HV2 := Lib.hid hval2; have HD2 := Lib.hid hdot2
            have HCN := Lib.hid hcd; have HCI := Lib.hid hci
            clear hst hall2 hval2 hdot2 hcn hcd hc hci
            have hb4 : (bs = false ∧ bl = false ∧ V = 0 ∧ c = 0) ∨ (bs = false ∧ bl = false ∧ V = 0 ∧ c ≠ 0) ∨ (bs = true ∧ bl = false ∧ V ≠ 0 ∧ V ≤ 1000000000000 ∧ V * 10 + c ≤ 1000000000000) ∨ (bs = true ∧ bl = false ∧ V ≠ 0 ∧ V ≤ 1000000000000 ∧ 1000000000000 < V * 10 + c) ∨ (bs = true ∧ bl = true ∧ 1000000000000 < V) := by
              by_cases z : V = 0
              · have e1 : bs = false := Bool.eq_false_iff.2 (fun h => hbs.1 h z)
                have e2 : bl = false := Bool.eq_false_iff.2 (fun h => by have := hbl.1 h; omega)
                by_cases cz : c = 0
                · exact Or.inl ⟨e1, e2, z, cz⟩
                · exact Or.inr (Or.inl ⟨e1, e2, z, cz⟩)
              · have e1 : bs = true := hbs.2 z
                by_cases b : 1000000000000 < V
                · exact Or.inr (Or.inr (Or.inr (Or.inr ⟨e1, hbl.2 b, b⟩)))
                · have e2 : bl = false := Bool.eq_false_iff.2 (fun h => by have := hbl.1 h; omega)
                  by_cases b2 : 1000000000000 < V * 10 + c
                  · exact Or.inr (Or.inr (Or.inr (Or.inl ⟨e1, e2, z, by omega, b2⟩)))
                  · exact Or.inr (Or.inr (Or.inl ⟨e1, e2, z, by omega, by omega⟩))
            clear hbs hbl
            rcases hb4 with ⟨rfl, rfl, rfl, rfl⟩ | ⟨rfl, rfl, rfl, hcz⟩ | ⟨rfl, rfl, hv0, hv1, hv2⟩ | ⟨rfl, rfl, hv0, hv1, hv2⟩ | ⟨rfl, rfl, hv1⟩
            · obtain rfl : nv = 0 := by have := hnv rfl; omega
              obtain rfl : ci = 0 := by have := HCI.out; omega
              have e48 : (U[k].toNat : Int) = 48 := by have := HCN.out; omega
              have e48b : ((U[k].toNat : Int) != 48) = false := by rw [e48]; rfl
              clear hnv
              go_wp2_with fail
              go_round
              case rel => exact ⟨k + 1, 0, false, false, hlt, by go_num, rfl, rfl, rfl, HA2.out, HD2.out, by rw [HV2.out]; exact ⟨fun h => absurd h (by decide), fun h => absurd rfl h⟩, by rw [HV2.out]; exact ⟨fun h => absurd h (by decide), fun h => absurd h q0⟩, fun _ => by rw [HV2.out]; rfl⟩
              case measure => exact meas_step hlt
            · obtain rfl : nv = 0 := by have := hnv rfl; omega
              have e48 : ¬ (U[k].toNat : Int) = 48 := by have := HCN.out; omega
              have e48b : ((U[k].toNat : Int) != 48) = true := by rw [bne_iff_ne]; exact e48
              have hcb : ¬ (1000000000000 : Int) < ci := by omega
              have hwc : wrap64 ci = ci := by unfold wrap64; omega
              have HC9 := Lib.hid (show (c : Int) ≤ 9 by have := HCI.out; omega)
              clear hnv
              go_wp2_with fail
              go_round
              case rel => exact ⟨k + 1, ci, true, false, hlt, by go_num, rfl, rfl, rfl, HA2.out, HD2.out, by rw [HV2.out]; exact ⟨fun _ => q1 hcz, fun _ => rfl⟩, by rw [HV2.out]; exact ⟨fun h => absurd h (by decide), fun h => absurd h (q2 HC9.out)⟩, fun _ => by rw [HV2.out, Nat.zero_mul, Nat.zero_add]; exact HCI.out.symm⟩
              case measure => exact meas_step hlt
            · have HN := Lib.hid (hnv rfl)
              have w1 : wrap64 (10 * nv) = 10 * nv := w1l hv1 HN.out
              have w2 : wrap64 (10 * nv + ci) = 10 * nv + ci := w2l hv1 HN.out hc0 hc9
              have hng : ¬ (1000000000000 : Int) < 10 * nv + ci := ngl hv2 HN.out HCI.out
              have V0 := Lib.hid hv0; have V1 := Lib.hid hv1; have V2 := Lib.hid hv2; have HKP := Lib.hid hkp
              clear hnv hv0 hv1 hv2 hkp HCN HD HA
              go_wp2_with fail
              go_round
              case rel => exact ⟨k + 1, 10 * nv + ci, true, false, hlt, by go_num, by first | rfl | rw [w2], rfl, rfl, HA2.out, HD2.out, by rw [HV2.out]; exact ⟨fun _ => q3 V0.out, fun _ => rfl⟩, by rw [HV2.out]; exact ⟨fun h => absurd h (by decide), fun h => absurd h (q4 V2.out)⟩, fun _ => by rw [HV2.out]; exact q6 HN.out HCI.out⟩
              case measure => exact meas_step hlt
            · have HN := Lib.hid (hnv rfl)
              have w1 : wrap64 (10 * nv) = 10 * nv := w1l hv1 HN.out
              have w2 : wrap64 (10 * nv + ci) = 10 * nv + ci := w2l hv1 HN.out hc0 hc9
              have hng : (1000000000000 : Int) < 10 * nv + ci := gl hv2 HN.out HCI.out
              have V0 := Lib.hid hv0; have V1 := Lib.hid hv1; have V2 := Lib.hid hv2; have HKP := Lib.hid hkp
              clear hnv hv0 hv1 hv2 hkp HCN HD HA
              go_wp2_with fail
              go_round
              case rel => exact ⟨k + 1, 10 * nv + ci, true, true, hlt, by go_num, by first | rfl | rw [w2], rfl, rfl, HA2.out, HD2.out, by rw [HV2.out]; exact ⟨fun _ => q3 V0.out, fun _ => rfl⟩, by rw [HV2.out]; exact ⟨fun _ => V2.out, fun _ => rfl⟩, fun h => absurd h (by decide)⟩
              case measure => exact meas_step hlt
            · have V1 := Lib.hid hv1
              clear hnv hv1 hkp HCN HD HA
              go_wp2_with fail
              go_round
              case rel => exact ⟨k + 1, nv, true, true, hlt, by go_num, rfl, rfl, rfl, HA2.out, HD2.out, by rw [HV2.out]; exact ⟨fun _ => q3 (q7 V1.out), fun _ => rfl⟩, by rw [HV2.out]; exact ⟨fun _ => q5 V1.out, fun _ => rfl⟩, fun h => absurd h (by decide)⟩
              case measure => exact meas_step hlt
      · have he : k = U.size := by omega
        subst he
        obtain ⟨hok, hnum⟩ := ok_yes HAT.out HSH.out (by rw [size_list]; exact HA.out) (fun h => by rw [size_list] at h; obtain ⟨h1, h2⟩ := HD.out h; rw [← h2]; simp [List.getD, h1, ← getU])
        rw [size_list, HV.out] at hnum
        have A2 := A2.out hok; have A3 := A3.out hok; have A4 := A4.out hok
        rw [hnum] at A2 A3 A4
        clear A1 hok hnum
        have hb3 : (bs = false ∧ bl = false ∧ V = 0) ∨ (bs = true ∧ bl = false ∧ V ≠ 0 ∧ V ≤ 1000000000000) ∨ (bs = true ∧ bl = true ∧ 1000000000000 < V) := by
          by_cases z : V = 0
          · exact Or.inl ⟨Bool.eq_false_iff.2 (fun h => hbs.1 h z), Bool.eq_false_iff.2 (fun h => by have := hbl.1 h; omega), z⟩
          · have e1 : bs = true := hbs.2 z
            by_cases b : 1000000000000 < V
            · exact Or.inr (Or.inr ⟨e1, hbl.2 b, b⟩)
            · exact Or.inr (Or.inl ⟨e1, Bool.eq_false_iff.2 (fun h => by have := hbl.1 h; omega), z, by omega⟩)
        clear hbs hbl
        rcases hb3 with ⟨rfl, rfl, rfl⟩ | ⟨rfl, rfl, hv0, hv1⟩ | ⟨rfl, rfl, hv1⟩
        · obtain rfl : nv = 0 := by have := hnv rfl; omega
          have HSY := Lib.hid (A2 (by first | rfl | trivial) (by first | rfl | trivial))
          clear A2 A3 A4 hnv
          go_wp2_with fail
          go_ret2
          exact ⟨by rw [HSY.out.1, HSY.out.2]; rfl, rfl⟩
        · have HN := Lib.hid (hnv rfl)
          have HS0 := A4 (by rw [show (V == 0) = false by rw [beq_eq_false_iff_ne]; exact hv0, Bool.and_false]) hv1
          have HSY : Hid (RE = 0 ∧ RV = -nv) := Lib.hid (by rw [HS0.1, HS0.2, HN.out]; unfold signed; rw [if_pos rfl]; exact ⟨rfl, rfl⟩)
          clear HS0
          have wn : wrap64 (-nv) = -nv := wnl hv1 HN.out
          clear A2 A3 A4 hnv
          go_wp2_with fail
          go_ret2
          exact ⟨by rw [HSY.out.1, HSY.out.2]; rfl, rfl⟩
        · have HSY := Lib.hid (A3 hv1)
          clear A2 A3 A4 hnv
          go_wp2_with fail
          go_ret2
          exact ⟨by rw [HSY.out.1, HSY.out.2]; rfl, rfl⟩

set_option maxRecDepth 100000 in
set_option maxHeartbeats 8000000 in
theorem rparse_n1 (s U : ByteArray) (d p : Nat) (RV RE : Int) (h0 : 0 < s.size) (h1 : s[0] = 45) (h2 : s.extract 1 s.size = U) (hUs : U.size ≤ 1000000) (hss : s.size ≤ 1000000) (hAt : At U.data.toList d p) (hp1 : 1 ≤ p)
    (hd : 1 ≤ d) (hd4 : d ≤ 4)
    (A1 : pOk U.data.toList d = false → RE = 2 ∧ RV = 0) (A2 : pOk U.data.toList d = true → true = true → pNum U.data.toList d = 0 → RE = 2 ∧ RV = 0) (A3 : pOk U.data.toList d = true → 1000000000000 < pNum U.data.toList d → RE = 6 ∧ RV = 0)
    (A4 : pOk U.data.toList d = true → (true && pNum U.data.toList d == 0) = false → pNum U.data.toList d ≤ 1000000000000 → RE = 0 ∧ RV = signed true (pNum U.data.toList d)) (w : World) :
    Calls Tryd.prog 26 #[.string s, .int .i64 d] w fun e w' => e = .returned (.tuple #[.int .i64 RV, .int .i64 RE]) ∧ w = w' := by
  have hU0 : 0 < U.size := by have := hAt.le; rw [size_list] at this; omega
  obtain ⟨tl, htl⟩ := head_of U hU0
  have hU0z : (0 : Int) < (U.size : Int) := by omega
  have h0z : (0 : Int) < (s.size : Int) := by omega
  have h1z : (1 : Int) ≤ (s.size : Int) := by omega
  have h45 : ((s[0].toNat : Int) == 45) = true := by rw [h1]; rfl
  have h45n : (s[0].toNat : Int) = 45 := by rw [h1]; rfl
  clear h1
  have hpU : (U.size : Int) - d - 1 = (p : Int) := by
    rcases hAt with ⟨e, _⟩ | ⟨_, e⟩
    · omega
    · rw [size_list] at e; omega
  have hwa : wrap64 ((U.size : Int) - d) = (U.size : Int) - d := by unfold wrap64; omega
  have hdz : (0 : Int) < (d : Int) := by omega
  have hd1 : ¬ (d : Int) < 0 := by omega
  have hd2 : ¬ (4 : Int) < (d : Int) := by omega
  have hW1 : ¬ (p : Int) < 1 := by omega
  have A1 := Lib.hid A1; have A2 := Lib.hid A2; have A3 := Lib.hid A3; have A4 := Lib.hid A4
  have HPU := Lib.hid hpU
  have HAT := Lib.hid hAt
  by_cases h48 : U[0] = 48
  · have e48 : ((U[0].toNat : Int) == 48) = true := by rw [h48]; rfl
    have e48n : (U[0].toNat : Int) = 48 := by rw [h48]; rfl
    by_cases hp : 1 < p
    · have HSY := Lib.hid (A1.out (ok_zero hAt hp _ _ htl h48))
      have hpz : (1 : Int) < (p : Int) := by omega
      clear A1 A2 A3 A4 htl hAt h48
      go_enter Tryd.func26, Tryd.ntmps26
      go_wp2_with fail
      go_ret2
      exact ⟨by rw [HSY.out.1, HSY.out.2]; rfl, rfl⟩
    · have HSH := Lib.hid (short_ok hAt hp1 _ _ htl (Or.inr (by omega)))
      have hpz : ¬ (1 : Int) < (p : Int) := by omega
      clear htl hAt h48
      go_enter Tryd.func26, Tryd.ntmps26
      go_wp2_with fail
      clear hpU
      go_loop [9, 10, 11, 12] (fun n sm lg i => ∃ (k : Nat) (nv : Int) (bs bl : Bool), k ≤ U.size ∧ i = .int .i64 k ∧ n = .int .i64 nv ∧ sm = .bool bs ∧ lg = .bool bl ∧ allDig (Dk U.data.toList p k) = true ∧ (p < k → ∃ h : p < U.size, U[p] = 46) ∧ (bs = true ↔ dval (Dk U.data.toList p k) ≠ 0) ∧ (bl = true ↔ 1000000000000 < dval (Dk U.data.toList p k)) ∧ (bl = false → nv = dval (Dk U.data.toList p k))) (fun _ _ _ i => U.size - (RowKit.intOf i).toNat)
      case atStart =>
        have e0 : Dk U.data.toList p 0 = [] := by unfold Dk; simp
        refine ⟨0, 0, false, false, by omega, rfl, rfl, rfl, rfl, by rw [e0]; rfl, fun h => absurd h (Nat.not_lt_zero _), by rw [e0]; exact ⟨fun h => absurd h (by decide), fun h => absurd rfl h⟩, by rw [e0, show dval [] = 0 from rfl]; exact ⟨fun h => absurd h (by decide), fun h => by omega⟩, fun _ => by rw [e0]; rfl⟩
      case round =>
        obtain ⟨k, nv, bs, bl, hk, rfl, rfl, rfl, rfl, hall, hdot, hbs, hbl, hnv⟩ := hrel
        obtain ⟨V, hV⟩ : ∃ V, dval (Dk U.data.toList p k) = V := ⟨_, rfl⟩
        rw [hV] at hbs hbl hnv
        have HA := Lib.hid hall; have HV := Lib.hid hV; have HD := Lib.hid hdot
        clear hall hV hdot
        by_cases hlt : k < U.size
        · have hkz : (k : Int) < (U.size : Int) := by omega
          have hkl : k < U.data.toList.length := by rw [size_list]; exact hlt
          by_cases hkp : k = p
          · subst hkp
            have HSK := Lib.hid (Dk_skip U.data.toList k hkl)
            by_cases h46 : U[k] = 46
            · have e46 : ((U[k].toNat : Int) != 46) = false := by rw [h46]; rfl
              have e46n : (U[k].toNat : Int) = 46 := by rw [h46]; rfl
              have H46 := Lib.hid h46; have HBS := Lib.hid hbs; have HBL := Lib.hid hbl; have HNV := Lib.hid hnv
              clear h46 hbs hbl hnv
              go_wp2_with fail
              go_round
              case rel => exact ⟨k + 1, nv, bs, bl, by omega, by go_num, rfl, rfl, rfl, by rw [HSK.out]; exact HA.out, fun _ => ⟨hlt, H46.out⟩, by rw [HSK.out, HV.out]; exact HBS.out, by rw [HSK.out, HV.out]; exact HBL.out, fun h => by rw [HSK.out, HV.out]; exact HNV.out h⟩
              case measure => exact meas_step hlt
            · have HSY := Lib.hid (A1.out (ok_nodot HAT.out hkl h46))
              have h46n : ¬ (U[k].toNat : Int) = 46 := by
                intro h; apply h46; apply UInt8.toNat_inj.1; rw [show (46 : UInt8).toNat = 46 from rfl]; omega
              have e46 : ((U[k].toNat : Int) != 46) = true := by rw [bne_iff_ne]; exact h46n
              clear h46 hbs hbl hnv A1 A2 A3 A4
              go_wp2_with fail
              go_ret2
              exact ⟨by rw [HSY.out.1, HSY.out.2]; rfl, rfl⟩
          · have ekp : ((k : Int) == (p : Int)) = false := by rw [beq_eq_false_iff_ne]; omega
            have ekn : ¬ (k : Int) = (p : Int) := by omega
            cases hc : dig U[k]
            · have HSY := Lib.hid (A1.out (ok_nodig HAT.out hkl hkp hc))
              simp only [dig, decide_eq_false_iff_not] at hc
              clear hbs hbl hnv A1 A2 A3 A4
              by_cases h48 : (U[k].toNat : Int) < 48
              · have hd1 : decide ((U[k].toNat : Int) < 48) = true := by simpa using h48
                clear hc
                go_wp2_with fail
                go_ret2
                exact ⟨by rw [HSY.out.1, HSY.out.2]; rfl, rfl⟩
              · have h57 : (57 : Int) < (U[k].toNat : Int) := by omega
                have hd1 : decide ((U[k].toNat : Int) < 48) = false := by simpa using h48
                have hd2 : decide ((57 : Int) < (U[k].toNat : Int)) = true := by simpa using h57
                clear hc
                go_wp2_with fail
                go_ret2
                exact ⟨by rw [HSY.out.1, HSY.out.2]; rfl, rfl⟩
            · have hst := Dk_step U.data.toList p k hkl hkp
              rw [getU U k hlt] at hst
              have hall2 : allDig (Dk U.data.toList p (k + 1)) = true := by rw [hst, allDig_snoc, HA.out, hc]; rfl
              have hval2 : dval (Dk U.data.toList p (k + 1)) = V * 10 + (U[k].toNat - 48) := by rw [hst, dval_snoc, HV.out]
              have hdot2 : p < k + 1 → ∃ h : p < U.size, U[p] = 46 := fun h => HD.out (by omega)
              simp only [dig, decide_eq_true_eq] at hc
              obtain ⟨c, hcd⟩ : ∃ c : Nat, (U[k].toNat : Int) - 48 = (c : Int) := ⟨U[k].toNat - 48, by omega⟩
              obtain ⟨ci, hci⟩ : ∃ ci : Int, (c : Int) = ci := ⟨_, rfl⟩
              have hc9 : ci ≤ 9 := by omega
              have hc0 : (0 : Int) ≤ ci := by omega
              have hcn : U[k].toNat - 48 = c := by omega
              rw [hcn] at hval2
              have hw8 : IntKind.u8.wrap ((U[k].toNat : Int) - 48) = ci := by rw [IntKind.wrap_u8]; omega
              have hw64 : IntKind.i64.wrap ci = ci := by rw [IntKind.wrap_i64]; omega
              have hd1 : decide ((U[k].toNat : Int) < 48) = false := by simp; omega
              have hd2 : decide ((57 : Int) < (U[k].toNat : Int)) = false := by simp; omega
              have hd3 : ¬ (U[k].toNat : Int) < 48 := by omega
              have hd4 : ¬ (57 : Int) < (U[k].toNat : Int) := by omega
              have HA2 := Lib.hid hall2; have HV2 := Lib.hid hval2; have HD2 := Lib.hid hdot2
              have HCN := Lib.hid hcd; have HCI := Lib.hid hci
              clear hst hall2 hval2 hdot2 hcn hcd hc hci
              have hb4 : (bs = false ∧ bl = false ∧ V = 0 ∧ c = 0) ∨ (bs = false ∧ bl = false ∧ V = 0 ∧ c ≠ 0) ∨ (bs = true ∧ bl = false ∧ V ≠ 0 ∧ V ≤ 1000000000000 ∧ V * 10 + c ≤ 1000000000000) ∨ (bs = true ∧ bl = false ∧ V ≠ 0 ∧ V ≤ 1000000000000 ∧ 1000000000000 < V * 10 + c) ∨ (bs = true ∧ bl = true ∧ 1000000000000 < V) := by
                by_cases z : V = 0
                · have e1 : bs = false := Bool.eq_false_iff.2 (fun h => hbs.1 h z)
                  have e2 : bl = false := Bool.eq_false_iff.2 (fun h => by have := hbl.1 h; omega)
                  by_cases cz : c = 0
                  · exact Or.inl ⟨e1, e2, z, cz⟩
                  · exact Or.inr (Or.inl ⟨e1, e2, z, cz⟩)
                · have e1 : bs = true := hbs.2 z
                  by_cases b : 1000000000000 < V
                  · exact Or.inr (Or.inr (Or.inr (Or.inr ⟨e1, hbl.2 b, b⟩)))
                  · have e2 : bl = false := Bool.eq_false_iff.2 (fun h => by have := hbl.1 h; omega)
                    by_cases b2 : 1000000000000 < V * 10 + c
                    · exact Or.inr (Or.inr (Or.inr (Or.inl ⟨e1, e2, z, by omega, b2⟩)))
                    · exact Or.inr (Or.inr (Or.inl ⟨e1, e2, z, by omega, by omega⟩))
              clear hbs hbl
              rcases hb4 with ⟨rfl, rfl, rfl, rfl⟩ | ⟨rfl, rfl, rfl, hcz⟩ | ⟨rfl, rfl, hv0, hv1, hv2⟩ | ⟨rfl, rfl, hv0, hv1, hv2⟩ | ⟨rfl, rfl, hv1⟩
              · obtain rfl : nv = 0 := by have := hnv rfl; omega
                obtain rfl : ci = 0 := by have := HCI.out; omega
                have e48 : (U[k].toNat : Int) = 48 := by have := HCN.out; omega
                have e48b : ((U[k].toNat : Int) != 48) = false := by rw [e48]; rfl
                clear hnv
                go_wp2_with fail
                go_round
                case rel => exact ⟨k + 1, 0, false, false, hlt, by go_num, rfl, rfl, rfl, HA2.out, HD2.out, by rw [HV2.out]; exact ⟨fun h => absurd h (by decide), fun h => absurd rfl h⟩, by rw [HV2.out]; exact ⟨fun h => absurd h (by decide), fun h => absurd h q0⟩, fun _ => by rw [HV2.out]; rfl⟩
                case measure => exact meas_step hlt
              · obtain rfl : nv = 0 := by have := hnv rfl; omega
                have e48 : ¬ (U[k].toNat : Int) = 48 := by have := HCN.out; omega
                have e48b : ((U[k].toNat : Int) != 48) = true := by rw [bne_iff_ne]; exact e48
                have hcb : ¬ (1000000000000 : Int) < ci := by omega
                have hwc : wrap64 ci = ci := by unfold wrap64; omega
                have HC9 := Lib.hid (show (c : Int) ≤ 9 by have := HCI.out; omega)
                clear hnv
                go_wp2_with fail
                go_round
                case rel => exact ⟨k + 1, ci, true, false, hlt, by go_num, rfl, rfl, rfl, HA2.out, HD2.out, by rw [HV2.out]; exact ⟨fun _ => q1 hcz, fun _ => rfl⟩, by rw [HV2.out]; exact ⟨fun h => absurd h (by decide), fun h => absurd h (q2 HC9.out)⟩, fun _ => by rw [HV2.out, Nat.zero_mul, Nat.zero_add]; exact HCI.out.symm⟩
                case measure => exact meas_step hlt
              · have HN := Lib.hid (hnv rfl)
                have w1 : wrap64 (10 * nv) = 10 * nv := w1l hv1 HN.out
                have w2 : wrap64 (10 * nv + ci) = 10 * nv + ci := w2l hv1 HN.out hc0 hc9
                have hng : ¬ (1000000000000 : Int) < 10 * nv + ci := ngl hv2 HN.out HCI.out
                have V0 := Lib.hid hv0; have V1 := Lib.hid hv1; have V2 := Lib.hid hv2; have HKP := Lib.hid hkp
                clear hnv hv0 hv1 hv2 hkp HCN HD HA
                go_wp2_with fail
                go_round
                case rel => exact ⟨k + 1, 10 * nv + ci, true, false, hlt, by go_num, by first | rfl | rw [w2], rfl, rfl, HA2.out, HD2.out, by rw [HV2.out]; exact ⟨fun _ => q3 V0.out, fun _ => rfl⟩, by rw [HV2.out]; exact ⟨fun h => absurd h (by decide), fun h => absurd h (q4 V2.out)⟩, fun _ => by rw [HV2.out]; exact q6 HN.out HCI.out⟩
                case measure => exact meas_step hlt
              · have HN := Lib.hid (hnv rfl)
                have w1 : wrap64 (10 * nv) = 10 * nv := w1l hv1 HN.out
                have w2 : wrap64 (10 * nv + ci) = 10 * nv + ci := w2l hv1 HN.out hc0 hc9
                have hng : (1000000000000 : Int) < 10 * nv + ci := gl hv2 HN.out HCI.out
                have V0 := Lib.hid hv0; have V1 := Lib.hid hv1; have V2 := Lib.hid hv2; have HKP := Lib.hid hkp
                clear hnv hv0 hv1 hv2 hkp HCN HD HA
                go_wp2_with fail
                go_round
                case rel => exact ⟨k + 1, 10 * nv + ci, true, true, hlt, by go_num, by first | rfl | rw [w2], rfl, rfl, HA2.out, HD2.out, by rw [HV2.out]; exact ⟨fun _ => q3 V0.out, fun _ => rfl⟩, by rw [HV2.out]; exact ⟨fun _ => V2.out, fun _ => rfl⟩, fun h => absurd h (by decide)⟩
                case measure => exact meas_step hlt
              · have V1 := Lib.hid hv1
                clear hnv hv1 hkp HCN HD HA
                go_wp2_with fail
                go_round
                case rel => exact ⟨k + 1, nv, true, true, hlt, by go_num, rfl, rfl, rfl, HA2.out, HD2.out, by rw [HV2.out]; exact ⟨fun _ => q3 (q7 V1.out), fun _ => rfl⟩, by rw [HV2.out]; exact ⟨fun _ => q5 V1.out, fun _ => rfl⟩, fun h => absurd h (by decide)⟩
                case measure => exact meas_step hlt
        · have he : k = U.size := by omega
          subst he
          obtain ⟨hok, hnum⟩ := ok_yes HAT.out HSH.out (by rw [size_list]; exact HA.out) (fun h => by rw [size_list] at h; obtain ⟨h1, h2⟩ := HD.out h; rw [← h2]; simp [List.getD, h1, ← getU])
          rw [size_list, HV.out] at hnum
          have A2 := A2.out hok; have A3 := A3.out hok; have A4 := A4.out hok
          rw [hnum] at A2 A3 A4
          clear A1 hok hnum
          have hb3 : (bs = false ∧ bl = false ∧ V = 0) ∨ (bs = true ∧ bl = false ∧ V ≠ 0 ∧ V ≤ 1000000000000) ∨ (bs = true ∧ bl = true ∧ 1000000000000 < V) := by
            by_cases z : V = 0
            · exact Or.inl ⟨Bool.eq_false_iff.2 (fun h => hbs.1 h z), Bool.eq_false_iff.2 (fun h => by have := hbl.1 h; omega), z⟩
            · have e1 : bs = true := hbs.2 z
              by_cases b : 1000000000000 < V
              · exact Or.inr (Or.inr ⟨e1, hbl.2 b, b⟩)
              · exact Or.inr (Or.inl ⟨e1, Bool.eq_false_iff.2 (fun h => by have := hbl.1 h; omega), z, by omega⟩)
          clear hbs hbl
          rcases hb3 with ⟨rfl, rfl, rfl⟩ | ⟨rfl, rfl, hv0, hv1⟩ | ⟨rfl, rfl, hv1⟩
          · obtain rfl : nv = 0 := by have := hnv rfl; omega
            have HSY := Lib.hid (A2 (by first | rfl | trivial) (by first | rfl | trivial))
            clear A2 A3 A4 hnv
            go_wp2_with fail
            go_ret2
            exact ⟨by rw [HSY.out.1, HSY.out.2]; rfl, rfl⟩
          · have HN := Lib.hid (hnv rfl)
            have HS0 := A4 (by rw [show (V == 0) = false by rw [beq_eq_false_iff_ne]; exact hv0, Bool.and_false]) hv1
            have HSY : Hid (RE = 0 ∧ RV = -nv) := Lib.hid (by rw [HS0.1, HS0.2, HN.out]; unfold signed; rw [if_pos rfl]; exact ⟨rfl, rfl⟩)
            clear HS0
            have wn : wrap64 (-nv) = -nv := wnl hv1 HN.out
            clear A2 A3 A4 hnv
            go_wp2_with fail
            go_ret2
            exact ⟨by rw [HSY.out.1, HSY.out.2]; rfl, rfl⟩
          · have HSY := Lib.hid (A3 hv1)
            clear A2 A3 A4 hnv
            go_wp2_with fail
            go_ret2
            exact ⟨by rw [HSY.out.1, HSY.out.2]; rfl, rfl⟩
  · have HSH := Lib.hid (short_ok hAt hp1 _ _ htl (Or.inl h48))
    have e48n : ¬ (U[0].toNat : Int) = 48 := by
      intro h; apply h48; apply UInt8.toNat_inj.1; rw [show (48 : UInt8).toNat = 48 from rfl]; omega
    have e48 : ((U[0].toNat : Int) == 48) = false := by rw [beq_eq_false_iff_ne]; exact e48n
    clear htl hAt h48
    go_enter Tryd.func26, Tryd.ntmps26
    go_wp2_with fail
    clear hpU
    go_loop [9, 10, 11, 12] (fun n sm lg i => ∃ (k : Nat) (nv : Int) (bs bl : Bool), k ≤ U.size ∧ i = .int .i64 k ∧ n = .int .i64 nv ∧ sm = .bool bs ∧ lg = .bool bl ∧ allDig (Dk U.data.toList p k) = true ∧ (p < k → ∃ h : p < U.size, U[p] = 46) ∧ (bs = true ↔ dval (Dk U.data.toList p k) ≠ 0) ∧ (bl = true ↔ 1000000000000 < dval (Dk U.data.toList p k)) ∧ (bl = false → nv = dval (Dk U.data.toList p k))) (fun _ _ _ i => U.size - (RowKit.intOf i).toNat)
    case atStart =>
      have e0 : Dk U.data.toList p 0 = [] := by unfold Dk; simp
      refine ⟨0, 0, false, false, by omega, rfl, rfl, rfl, rfl, by rw [e0]; rfl, fun h => absurd h (Nat.not_lt_zero _), by rw [e0]; exact ⟨fun h => absurd h (by decide), fun h => absurd rfl h⟩, by rw [e0, show dval [] = 0 from rfl]; exact ⟨fun h => absurd h (by decide), fun h => by omega⟩, fun _ => by rw [e0]; rfl⟩
    case round =>
      obtain ⟨k, nv, bs, bl, hk, rfl, rfl, rfl, rfl, hall, hdot, hbs, hbl, hnv⟩ := hrel
      obtain ⟨V, hV⟩ : ∃ V, dval (Dk U.data.toList p k) = V := ⟨_, rfl⟩
      rw [hV] at hbs hbl hnv
      have HA := Lib.hid hall; have HV := Lib.hid hV; have HD := Lib.hid hdot
      clear hall hV hdot
      by_cases hlt : k < U.size
      · have hkz : (k : Int) < (U.size : Int) := by omega
        have hkl : k < U.data.toList.length := by rw [size_list]; exact hlt
        by_cases hkp : k = p
        · subst hkp
          have HSK := Lib.hid (Dk_skip U.data.toList k hkl)
          by_cases h46 : U[k] = 46
          · have e46 : ((U[k].toNat : Int) != 46) = false := by rw [h46]; rfl
            have e46n : (U[k].toNat : Int) = 46 := by rw [h46]; rfl
            have H46 := Lib.hid h46; have HBS := Lib.hid hbs; have HBL := Lib.hid hbl; have HNV := Lib.hid hnv
            clear h46 hbs hbl hnv
            go_wp2_with fail
            go_round
            case rel => exact ⟨k + 1, nv, bs, bl, by omega, by go_num, rfl, rfl, rfl, by rw [HSK.out]; exact HA.out, fun _ => ⟨hlt, H46.out⟩, by rw [HSK.out, HV.out]; exact HBS.out, by rw [HSK.out, HV.out]; exact HBL.out, fun h => by rw [HSK.out, HV.out]; exact HNV.out h⟩
            case measure => exact meas_step hlt
          · have HSY := Lib.hid (A1.out (ok_nodot HAT.out hkl h46))
            have h46n : ¬ (U[k].toNat : Int) = 46 := by
              intro h; apply h46; apply UInt8.toNat_inj.1; rw [show (46 : UInt8).toNat = 46 from rfl]; omega
            have e46 : ((U[k].toNat : Int) != 46) = true := by rw [bne_iff_ne]; exact h46n
            clear h46 hbs hbl hnv A1 A2 A3 A4
            go_wp2_with fail
            go_ret2
            exact ⟨by rw [HSY.out.1, HSY.out.2]; rfl, rfl⟩
        · have ekp : ((k : Int) == (p : Int)) = false := by rw [beq_eq_false_iff_ne]; omega
          have ekn : ¬ (k : Int) = (p : Int) := by omega
          cases hc : dig U[k]
          · have HSY := Lib.hid (A1.out (ok_nodig HAT.out hkl hkp hc))
            simp only [dig, decide_eq_false_iff_not] at hc
            clear hbs hbl hnv A1 A2 A3 A4
            by_cases h48 : (U[k].toNat : Int) < 48
            · have hd1 : decide ((U[k].toNat : Int) < 48) = true := by simpa using h48
              clear hc
              go_wp2_with fail
              go_ret2
              exact ⟨by rw [HSY.out.1, HSY.out.2]; rfl, rfl⟩
            · have h57 : (57 : Int) < (U[k].toNat : Int) := by omega
              have hd1 : decide ((U[k].toNat : Int) < 48) = false := by simpa using h48
              have hd2 : decide ((57 : Int) < (U[k].toNat : Int)) = true := by simpa using h57
              clear hc
              go_wp2_with fail
              go_ret2
              exact ⟨by rw [HSY.out.1, HSY.out.2]; rfl, rfl⟩
          · have hst := Dk_step U.data.toList p k hkl hkp
            rw [getU U k hlt] at hst
            have hall2 : allDig (Dk U.data.toList p (k + 1)) = true := by rw [hst, allDig_snoc, HA.out, hc]; rfl
            have hval2 : dval (Dk U.data.toList p (k + 1)) = V * 10 + (U[k].toNat - 48) := by rw [hst, dval_snoc, HV.out]
            have hdot2 : p < k + 1 → ∃ h : p < U.size, U[p] = 46 := fun h => HD.out (by omega)
            simp only [dig, decide_eq_true_eq] at hc
            obtain ⟨c, hcd⟩ : ∃ c : Nat, (U[k].toNat : Int) - 48 = (c : Int) := ⟨U[k].toNat - 48, by omega⟩
            obtain ⟨ci, hci⟩ : ∃ ci : Int, (c : Int) = ci := ⟨_, rfl⟩
            have hc9 : ci ≤ 9 := by omega
            have hc0 : (0 : Int) ≤ ci := by omega
            have hcn : U[k].toNat - 48 = c := by omega
            rw [hcn] at hval2
            have hw8 : IntKind.u8.wrap ((U[k].toNat : Int) - 48) = ci := by rw [IntKind.wrap_u8]; omega
            have hw64 : IntKind.i64.wrap ci = ci := by rw [IntKind.wrap_i64]; omega
            have hd1 : decide ((U[k].toNat : Int) < 48) = false := by simp; omega
            have hd2 : decide ((57 : Int) < (U[k].toNat : Int)) = false := by simp; omega
            have hd3 : ¬ (U[k].toNat : Int) < 48 := by omega
            have hd4 : ¬ (57 : Int) < (U[k].toNat : Int) := by omega
            have HA2 := Lib.hid hall2; have HV2 := Lib.hid hval2; have HD2 := Lib.hid hdot2
            have HCN := Lib.hid hcd; have HCI := Lib.hid hci
            clear hst hall2 hval2 hdot2 hcn hcd hc hci
            have hb4 : (bs = false ∧ bl = false ∧ V = 0 ∧ c = 0) ∨ (bs = false ∧ bl = false ∧ V = 0 ∧ c ≠ 0) ∨ (bs = true ∧ bl = false ∧ V ≠ 0 ∧ V ≤ 1000000000000 ∧ V * 10 + c ≤ 1000000000000) ∨ (bs = true ∧ bl = false ∧ V ≠ 0 ∧ V ≤ 1000000000000 ∧ 1000000000000 < V * 10 + c) ∨ (bs = true ∧ bl = true ∧ 1000000000000 < V) := by
              by_cases z : V = 0
              · have e1 : bs = false := Bool.eq_false_iff.2 (fun h => hbs.1 h z)
                have e2 : bl = false := Bool.eq_false_iff.2 (fun h => by have := hbl.1 h; omega)
                by_cases cz : c = 0
                · exact Or.inl ⟨e1, e2, z, cz⟩
                · exact Or.inr (Or.inl ⟨e1, e2, z, cz⟩)
              · have e1 : bs = true := hbs.2 z
                by_cases b : 1000000000000 < V
                · exact Or.inr (Or.inr (Or.inr (Or.inr ⟨e1, hbl.2 b, b⟩)))
                · have e2 : bl = false := Bool.eq_false_iff.2 (fun h => by have := hbl.1 h; omega)
                  by_cases b2 : 1000000000000 < V * 10 + c
                  · exact Or.inr (Or.inr (Or.inr (Or.inl ⟨e1, e2, z, by omega, b2⟩)))
                  · exact Or.inr (Or.inr (Or.inl ⟨e1, e2, z, by omega, by omega⟩))
            clear hbs hbl
            rcases hb4 with ⟨rfl, rfl, rfl, rfl⟩ | ⟨rfl, rfl, rfl, hcz⟩ | ⟨rfl, rfl, hv0, hv1, hv2⟩ | ⟨rfl, rfl, hv0, hv1, hv2⟩ | ⟨rfl, rfl, hv1⟩
            · obtain rfl : nv = 0 := by have := hnv rfl; omega
              obtain rfl : ci = 0 := by have := HCI.out; omega
              have e48 : (U[k].toNat : Int) = 48 := by have := HCN.out; omega
              have e48b : ((U[k].toNat : Int) != 48) = false := by rw [e48]; rfl
              clear hnv
              go_wp2_with fail
              go_round
              case rel => exact ⟨k + 1, 0, false, false, hlt, by go_num, rfl, rfl, rfl, HA2.out, HD2.out, by rw [HV2.out]; exact ⟨fun h => absurd h (by decide), fun h => absurd rfl h⟩, by rw [HV2.out]; exact ⟨fun h => absurd h (by decide), fun h => absurd h q0⟩, fun _ => by rw [HV2.out]; rfl⟩
              case measure => exact meas_step hlt
            · obtain rfl : nv = 0 := by have := hnv rfl; omega
              have e48 : ¬ (U[k].toNat : Int) = 48 := by have := HCN.out; omega
              have e48b : ((U[k].toNat : Int) != 48) = true := by rw [bne_iff_ne]; exact e48
              have hcb : ¬ (1000000000000 : Int) < ci := by omega
              have hwc : wrap64 ci = ci := by unfold wrap64; omega
              have HC9 := Lib.hid (show (c : Int) ≤ 9 by have := HCI.out; omega)
              clear hnv
              go_wp2_with fail
              go_round
              case rel => exact ⟨k + 1, ci, true, false, hlt, by go_num, rfl, rfl, rfl, HA2.out, HD2.out, by rw [HV2.out]; exact ⟨fun _ => q1 hcz, fun _ => rfl⟩, by rw [HV2.out]; exact ⟨fun h => absurd h (by decide), fun h => absurd h (q2 HC9.out)⟩, fun _ => by rw [HV2.out, Nat.zero_mul, Nat.zero_add]; exact HCI.out.symm⟩
              case measure => exact meas_step hlt
            · have HN := Lib.hid (hnv rfl)
              have w1 : wrap64 (10 * nv) = 10 * nv := w1l hv1 HN.out
              have w2 : wrap64 (10 * nv + ci) = 10 * nv + ci := w2l hv1 HN.out hc0 hc9
              have hng : ¬ (1000000000000 : Int) < 10 * nv + ci := ngl hv2 HN.out HCI.out
              have V0 := Lib.hid hv0; have V1 := Lib.hid hv1; have V2 := Lib.hid hv2; have HKP := Lib.hid hkp
              clear hnv hv0 hv1 hv2 hkp HCN HD HA
              go_wp2_with fail
              go_round
              case rel => exact ⟨k + 1, 10 * nv + ci, true, false, hlt, by go_num, by first | rfl | rw [w2], rfl, rfl, HA2.out, HD2.out, by rw [HV2.out]; exact ⟨fun _ => q3 V0.out, fun _ => rfl⟩, by rw [HV2.out]; exact ⟨fun h => absurd h (by decide), fun h => absurd h (q4 V2.out)⟩, fun _ => by rw [HV2.out]; exact q6 HN.out HCI.out⟩
              case measure => exact meas_step hlt
            · have HN := Lib.hid (hnv rfl)
              have w1 : wrap64 (10 * nv) = 10 * nv := w1l hv1 HN.out
              have w2 : wrap64 (10 * nv + ci) = 10 * nv + ci := w2l hv1 HN.out hc0 hc9
              have hng : (1000000000000 : Int) < 10 * nv + ci := gl hv2 HN.out HCI.out
              have V0 := Lib.hid hv0; have V1 := Lib.hid hv1; have V2 := Lib.hid hv2; have HKP := Lib.hid hkp
              clear hnv hv0 hv1 hv2 hkp HCN HD HA
              go_wp2_with fail
              go_round
              case rel => exact ⟨k + 1, 10 * nv + ci, true, true, hlt, by go_num, by first | rfl | rw [w2], rfl, rfl, HA2.out, HD2.out, by rw [HV2.out]; exact ⟨fun _ => q3 V0.out, fun _ => rfl⟩, by rw [HV2.out]; exact ⟨fun _ => V2.out, fun _ => rfl⟩, fun h => absurd h (by decide)⟩
              case measure => exact meas_step hlt
            · have V1 := Lib.hid hv1
              clear hnv hv1 hkp HCN HD HA
              go_wp2_with fail
              go_round
              case rel => exact ⟨k + 1, nv, true, true, hlt, by go_num, rfl, rfl, rfl, HA2.out, HD2.out, by rw [HV2.out]; exact ⟨fun _ => q3 (q7 V1.out), fun _ => rfl⟩, by rw [HV2.out]; exact ⟨fun _ => q5 V1.out, fun _ => rfl⟩, fun h => absurd h (by decide)⟩
              case measure => exact meas_step hlt
      · have he : k = U.size := by omega
        subst he
        obtain ⟨hok, hnum⟩ := ok_yes HAT.out HSH.out (by rw [size_list]; exact HA.out) (fun h => by rw [size_list] at h; obtain ⟨h1, h2⟩ := HD.out h; rw [← h2]; simp [List.getD, h1, ← getU])
        rw [size_list, HV.out] at hnum
        have A2 := A2.out hok; have A3 := A3.out hok; have A4 := A4.out hok
        rw [hnum] at A2 A3 A4
        clear A1 hok hnum
        have hb3 : (bs = false ∧ bl = false ∧ V = 0) ∨ (bs = true ∧ bl = false ∧ V ≠ 0 ∧ V ≤ 1000000000000) ∨ (bs = true ∧ bl = true ∧ 1000000000000 < V) := by
          by_cases z : V = 0
          · exact Or.inl ⟨Bool.eq_false_iff.2 (fun h => hbs.1 h z), Bool.eq_false_iff.2 (fun h => by have := hbl.1 h; omega), z⟩
          · have e1 : bs = true := hbs.2 z
            by_cases b : 1000000000000 < V
            · exact Or.inr (Or.inr ⟨e1, hbl.2 b, b⟩)
            · exact Or.inr (Or.inl ⟨e1, Bool.eq_false_iff.2 (fun h => by have := hbl.1 h; omega), z, by omega⟩)
        clear hbs hbl
        rcases hb3 with ⟨rfl, rfl, rfl⟩ | ⟨rfl, rfl, hv0, hv1⟩ | ⟨rfl, rfl, hv1⟩
        · obtain rfl : nv = 0 := by have := hnv rfl; omega
          have HSY := Lib.hid (A2 (by first | rfl | trivial) (by first | rfl | trivial))
          clear A2 A3 A4 hnv
          go_wp2_with fail
          go_ret2
          exact ⟨by rw [HSY.out.1, HSY.out.2]; rfl, rfl⟩
        · have HN := Lib.hid (hnv rfl)
          have HS0 := A4 (by rw [show (V == 0) = false by rw [beq_eq_false_iff_ne]; exact hv0, Bool.and_false]) hv1
          have HSY : Hid (RE = 0 ∧ RV = -nv) := Lib.hid (by rw [HS0.1, HS0.2, HN.out]; unfold signed; rw [if_pos rfl]; exact ⟨rfl, rfl⟩)
          clear HS0
          have wn : wrap64 (-nv) = -nv := wnl hv1 HN.out
          clear A2 A3 A4 hnv
          go_wp2_with fail
          go_ret2
          exact ⟨by rw [HSY.out.1, HSY.out.2]; rfl, rfl⟩
        · have HSY := Lib.hid (A3 hv1)
          clear A2 A3 A4 hnv
          go_wp2_with fail
          go_ret2
          exact ⟨by rw [HSY.out.1, HSY.out.2]; rfl, rfl⟩

set_option maxRecDepth 100000 in
set_option maxHeartbeats 8000000 in
theorem rparse_p0 (U : ByteArray) (RV RE : Int) (h0 : 0 < U.size) (h1 : U[0] ≠ 45) (hUs : U.size ≤ 1000000) (hAt : At U.data.toList 0 U.size) (hp1 : 1 ≤ U.size)
    (A1 : pOk U.data.toList 0 = false → RE = 2 ∧ RV = 0) (A2 : pOk U.data.toList 0 = true → false = true → pNum U.data.toList 0 = 0 → RE = 2 ∧ RV = 0) (A3 : pOk U.data.toList 0 = true → 1000000000000 < pNum U.data.toList 0 → RE = 6 ∧ RV = 0)
    (A4 : pOk U.data.toList 0 = true → (false && pNum U.data.toList 0 == 0) = false → pNum U.data.toList 0 ≤ 1000000000000 → RE = 0 ∧ RV = signed false (pNum U.data.toList 0)) (w : World) :
    Calls Tryd.prog 26 #[.string U, .int .i64 0] w fun e w' => e = .returned (.tuple #[.int .i64 RV, .int .i64 RE]) ∧ w = w' := by
  have hU0 : 0 < U.size := by have := hAt.le; rw [size_list] at this; omega
  obtain ⟨tl, htl⟩ := head_of U hU0
  have hU0z : (0 : Int) < (U.size : Int) := by omega
  have h45n : ¬ (U[0].toNat : Int) = 45 := by
    intro h; apply h1; apply UInt8.toNat_inj.1; rw [show (45 : UInt8).toNat = 45 from rfl]; omega
  have h45 : ((U[0].toNat : Int) == 45) = false := by rw [beq_eq_false_iff_ne]; exact h45n
  clear h1
  have hpU : 0 = 0 := rfl
  have hW1 : ¬ (U.size : Int) < 1 := by omega
  have A1 := Lib.hid A1; have A2 := Lib.hid A2; have A3 := Lib.hid A3; have A4 := Lib.hid A4
  have HPU := Lib.hid hpU
  have HAT := Lib.hid hAt
  by_cases h48 : U[0] = 48
  · have e48 : ((U[0].toNat : Int) == 48) = true := by rw [h48]; rfl
    have e48n : (U[0].toNat : Int) = 48 := by rw [h48]; rfl
    by_cases hp : 1 < U.size
    · have HSY := Lib.hid (A1.out (ok_zero hAt hp _ _ htl h48))
      have hpz : (1 : Int) < (U.size : Int) := by omega
      clear A1 A2 A3 A4 htl hAt h48 hpU
      go_enter Tryd.func26, Tryd.ntmps26
      go_wp2_with fail
      go_ret2
      exact ⟨by rw [HSY.out.1, HSY.out.2]; rfl, rfl⟩
    · have HSH := Lib.hid (short_ok hAt hp1 _ _ htl (Or.inr (by omega)))
      have hpz : ¬ (1 : Int) < (U.size : Int) := by omega
      clear htl hAt h48 hpU
      go_enter Tryd.func26, Tryd.ntmps26
      go_wp2_with fail
      go_loop [9, 10, 11, 12] (fun n sm lg i => ∃ (k : Nat) (nv : Int) (bs bl : Bool), k ≤ U.size ∧ i = .int .i64 k ∧ n = .int .i64 nv ∧ sm = .bool bs ∧ lg = .bool bl ∧ allDig (Dk U.data.toList U.size k) = true ∧ (U.size < k → ∃ h : U.size < U.size, U[U.size] = 46) ∧ (bs = true ↔ dval (Dk U.data.toList U.size k) ≠ 0) ∧ (bl = true ↔ 1000000000000 < dval (Dk U.data.toList U.size k)) ∧ (bl = false → nv = dval (Dk U.data.toList U.size k))) (fun _ _ _ i => U.size - (RowKit.intOf i).toNat)
      case atStart =>
        have e0 : Dk U.data.toList U.size 0 = [] := by unfold Dk; simp
        refine ⟨0, 0, false, false, by omega, rfl, rfl, rfl, rfl, by rw [e0]; rfl, fun h => absurd h (Nat.not_lt_zero _), by rw [e0]; exact ⟨fun h => absurd h (by decide), fun h => absurd rfl h⟩, by rw [e0, show dval [] = 0 from rfl]; exact ⟨fun h => absurd h (by decide), fun h => by omega⟩, fun _ => by rw [e0]; rfl⟩
      case round =>
        obtain ⟨k, nv, bs, bl, hk, rfl, rfl, rfl, rfl, hall, hdot, hbs, hbl, hnv⟩ := hrel
        obtain ⟨V, hV⟩ : ∃ V, dval (Dk U.data.toList U.size k) = V := ⟨_, rfl⟩
        rw [hV] at hbs hbl hnv
        have HA := Lib.hid hall; have HV := Lib.hid hV; have HD := Lib.hid hdot
        clear hall hV hdot
        by_cases hlt : k < U.size
        · have hkz : (k : Int) < (U.size : Int) := by omega
          have hkl : k < U.data.toList.length := by rw [size_list]; exact hlt
          by_cases hkp : k = U.size
          · exfalso; omega
          · have ekp : ((k : Int) == (U.size : Int)) = false := by rw [beq_eq_false_iff_ne]; omega
            have ekn : ¬ (k : Int) = (U.size : Int) := by omega
            cases hc : dig U[k]
            · have HSY := Lib.hid (A1.out (ok_nodig HAT.out hkl hkp hc))
              simp only [dig, decide_eq_false_iff_not] at hc
              clear hbs hbl hnv A1 A2 A3 A4
              by_cases h48 : (U[k].toNat : Int) < 48
              · have hd1 : decide ((U[k].toNat : Int) < 48) = true := by simpa using h48
                clear hc
                go_wp2_with fail
                go_ret2
                exact ⟨by rw [HSY.out.1, HSY.out.2]; rfl, rfl⟩
              · have h57 : (57 : Int) < (U[k].toNat : Int) := by omega
                have hd1 : decide ((U[k].toNat : Int) < 48) = false := by simpa using h48
                have hd2 : decide ((57 : Int) < (U[k].toNat : Int)) = true := by simpa using h57
                clear hc
                go_wp2_with fail
                go_ret2
                exact ⟨by rw [HSY.out.1, HSY.out.2]; rfl, rfl⟩
            · have hst := Dk_step U.data.toList U.size k hkl hkp
              rw [getU U k hlt] at hst
              have hall2 : allDig (Dk U.data.toList U.size (k + 1)) = true := by rw [hst, allDig_snoc, HA.out, hc]; rfl
              have hval2 : dval (Dk U.data.toList U.size (k + 1)) = V * 10 + (U[k].toNat - 48) := by rw [hst, dval_snoc, HV.out]
              have hdot2 : U.size < k + 1 → ∃ h : U.size < U.size, U[U.size] = 46 := fun h => HD.out (by omega)
              simp only [dig, decide_eq_true_eq] at hc
              obtain ⟨c, hcd⟩ : ∃ c : Nat, (U[k].toNat : Int) - 48 = (c : Int) := ⟨U[k].toNat - 48, by omega⟩
              obtain ⟨ci, hci⟩ : ∃ ci : Int, (c : Int) = ci := ⟨_, rfl⟩
              have hc9 : ci ≤ 9 := by omega
              have hc0 : (0 : Int) ≤ ci := by omega
              have hcn : U[k].toNat - 48 = c := by omega
              rw [hcn] at hval2
              have hw8 : IntKind.u8.wrap ((U[k].toNat : Int) - 48) = ci := by rw [IntKind.wrap_u8]; omega
              have hw64 : IntKind.i64.wrap ci = ci := by rw [IntKind.wrap_i64]; omega
              have hd1 : decide ((U[k].toNat : Int) < 48) = false := by simp; omega
              have hd2 : decide ((57 : Int) < (U[k].toNat : Int)) = false := by simp; omega
              have hd3 : ¬ (U[k].toNat : Int) < 48 := by omega
              have hd4 : ¬ (57 : Int) < (U[k].toNat : Int) := by omega
              have HA2 := Lib.hid hall2; have HV2 := Lib.hid hval2; have HD2 := Lib.hid hdot2
              have HCN := Lib.hid hcd; have HCI := Lib.hid hci
              clear hst hall2 hval2 hdot2 hcn hcd hc hci
              have hb4 : (bs = false ∧ bl = false ∧ V = 0 ∧ c = 0) ∨ (bs = false ∧ bl = false ∧ V = 0 ∧ c ≠ 0) ∨ (bs = true ∧ bl = false ∧ V ≠ 0 ∧ V ≤ 1000000000000 ∧ V * 10 + c ≤ 1000000000000) ∨ (bs = true ∧ bl = false ∧ V ≠ 0 ∧ V ≤ 1000000000000 ∧ 1000000000000 < V * 10 + c) ∨ (bs = true ∧ bl = true ∧ 1000000000000 < V) := by
                by_cases z : V = 0
                · have e1 : bs = false := Bool.eq_false_iff.2 (fun h => hbs.1 h z)
                  have e2 : bl = false := Bool.eq_false_iff.2 (fun h => by have := hbl.1 h; omega)
                  by_cases cz : c = 0
                  · exact Or.inl ⟨e1, e2, z, cz⟩
                  · exact Or.inr (Or.inl ⟨e1, e2, z, cz⟩)
                · have e1 : bs = true := hbs.2 z
                  by_cases b : 1000000000000 < V
                  · exact Or.inr (Or.inr (Or.inr (Or.inr ⟨e1, hbl.2 b, b⟩)))
                  · have e2 : bl = false := Bool.eq_false_iff.2 (fun h => by have := hbl.1 h; omega)
                    by_cases b2 : 1000000000000 < V * 10 + c
                    · exact Or.inr (Or.inr (Or.inr (Or.inl ⟨e1, e2, z, by omega, b2⟩)))
                    · exact Or.inr (Or.inr (Or.inl ⟨e1, e2, z, by omega, by omega⟩))
              clear hbs hbl
              rcases hb4 with ⟨rfl, rfl, rfl, rfl⟩ | ⟨rfl, rfl, rfl, hcz⟩ | ⟨rfl, rfl, hv0, hv1, hv2⟩ | ⟨rfl, rfl, hv0, hv1, hv2⟩ | ⟨rfl, rfl, hv1⟩
              · obtain rfl : nv = 0 := by have := hnv rfl; omega
                obtain rfl : ci = 0 := by have := HCI.out; omega
                have e48 : (U[k].toNat : Int) = 48 := by have := HCN.out; omega
                have e48b : ((U[k].toNat : Int) != 48) = false := by rw [e48]; rfl
                clear hnv
                go_wp2_with fail
                go_round
                case rel => exact ⟨k + 1, 0, false, false, hlt, by go_num, rfl, rfl, rfl, HA2.out, HD2.out, by rw [HV2.out]; exact ⟨fun h => absurd h (by decide), fun h => absurd rfl h⟩, by rw [HV2.out]; exact ⟨fun h => absurd h (by decide), fun h => absurd h q0⟩, fun _ => by rw [HV2.out]; rfl⟩
                case measure => exact meas_step hlt
              · obtain rfl : nv = 0 := by have := hnv rfl; omega
                have e48 : ¬ (U[k].toNat : Int) = 48 := by have := HCN.out; omega
                have e48b : ((U[k].toNat : Int) != 48) = true := by rw [bne_iff_ne]; exact e48
                have hcb : ¬ (1000000000000 : Int) < ci := by omega
                have hwc : wrap64 ci = ci := by unfold wrap64; omega
                have HC9 := Lib.hid (show (c : Int) ≤ 9 by have := HCI.out; omega)
                clear hnv
                go_wp2_with fail
                go_round
                case rel => exact ⟨k + 1, ci, true, false, hlt, by go_num, rfl, rfl, rfl, HA2.out, HD2.out, by rw [HV2.out]; exact ⟨fun _ => q1 hcz, fun _ => rfl⟩, by rw [HV2.out]; exact ⟨fun h => absurd h (by decide), fun h => absurd h (q2 HC9.out)⟩, fun _ => by rw [HV2.out, Nat.zero_mul, Nat.zero_add]; exact HCI.out.symm⟩
                case measure => exact meas_step hlt
              · have HN := Lib.hid (hnv rfl)
                have w1 : wrap64 (10 * nv) = 10 * nv := w1l hv1 HN.out
                have w2 : wrap64 (10 * nv + ci) = 10 * nv + ci := w2l hv1 HN.out hc0 hc9
                have hng : ¬ (1000000000000 : Int) < 10 * nv + ci := ngl hv2 HN.out HCI.out
                have V0 := Lib.hid hv0; have V1 := Lib.hid hv1; have V2 := Lib.hid hv2; have HKP := Lib.hid hkp
                clear hnv hv0 hv1 hv2 hkp HCN HD HA
                go_wp2_with fail
                go_round
                case rel => exact ⟨k + 1, 10 * nv + ci, true, false, hlt, by go_num, by first | rfl | rw [w2], rfl, rfl, HA2.out, HD2.out, by rw [HV2.out]; exact ⟨fun _ => q3 V0.out, fun _ => rfl⟩, by rw [HV2.out]; exact ⟨fun h => absurd h (by decide), fun h => absurd h (q4 V2.out)⟩, fun _ => by rw [HV2.out]; exact q6 HN.out HCI.out⟩
                case measure => exact meas_step hlt
              · have HN := Lib.hid (hnv rfl)
                have w1 : wrap64 (10 * nv) = 10 * nv := w1l hv1 HN.out
                have w2 : wrap64 (10 * nv + ci) = 10 * nv + ci := w2l hv1 HN.out hc0 hc9
                have hng : (1000000000000 : Int) < 10 * nv + ci := gl hv2 HN.out HCI.out
                have V0 := Lib.hid hv0; have V1 := Lib.hid hv1; have V2 := Lib.hid hv2; have HKP := Lib.hid hkp
                clear hnv hv0 hv1 hv2 hkp HCN HD HA
                go_wp2_with fail
                go_round
                case rel => exact ⟨k + 1, 10 * nv + ci, true, true, hlt, by go_num, by first | rfl | rw [w2], rfl, rfl, HA2.out, HD2.out, by rw [HV2.out]; exact ⟨fun _ => q3 V0.out, fun _ => rfl⟩, by rw [HV2.out]; exact ⟨fun _ => V2.out, fun _ => rfl⟩, fun h => absurd h (by decide)⟩
                case measure => exact meas_step hlt
              · have V1 := Lib.hid hv1
                clear hnv hv1 hkp HCN HD HA
                go_wp2_with fail
                go_round
                case rel => exact ⟨k + 1, nv, true, true, hlt, by go_num, rfl, rfl, rfl, HA2.out, HD2.out, by rw [HV2.out]; exact ⟨fun _ => q3 (q7 V1.out), fun _ => rfl⟩, by rw [HV2.out]; exact ⟨fun _ => q5 V1.out, fun _ => rfl⟩, fun h => absurd h (by decide)⟩
                case measure => exact meas_step hlt
        · have he : k = U.size := by omega
          subst he
          obtain ⟨hok, hnum⟩ := ok_yes HAT.out HSH.out (by rw [size_list]; exact HA.out) (fun h => by rw [size_list] at h; obtain ⟨h1, h2⟩ := HD.out h; rw [← h2]; simp [List.getD, h1, ← getU])
          rw [size_list, HV.out] at hnum
          have A2 := A2.out hok; have A3 := A3.out hok; have A4 := A4.out hok
          rw [hnum] at A2 A3 A4
          clear A1 hok hnum
          have hb3 : (bs = false ∧ bl = false ∧ V = 0) ∨ (bs = true ∧ bl = false ∧ V ≠ 0 ∧ V ≤ 1000000000000) ∨ (bs = true ∧ bl = true ∧ 1000000000000 < V) := by
            by_cases z : V = 0
            · exact Or.inl ⟨Bool.eq_false_iff.2 (fun h => hbs.1 h z), Bool.eq_false_iff.2 (fun h => by have := hbl.1 h; omega), z⟩
            · have e1 : bs = true := hbs.2 z
              by_cases b : 1000000000000 < V
              · exact Or.inr (Or.inr ⟨e1, hbl.2 b, b⟩)
              · exact Or.inr (Or.inl ⟨e1, Bool.eq_false_iff.2 (fun h => by have := hbl.1 h; omega), z, by omega⟩)
          clear hbs hbl
          rcases hb3 with ⟨rfl, rfl, rfl⟩ | ⟨rfl, rfl, hv0, hv1⟩ | ⟨rfl, rfl, hv1⟩
          · obtain rfl : nv = 0 := by have := hnv rfl; omega
            have HS0 := A4 rfl (by omega)
            have HSY : Hid (RE = 0 ∧ RV = 0) := Lib.hid (by rw [HS0.1, HS0.2]; unfold signed; rw [if_neg (by decide)]; exact ⟨rfl, rfl⟩)
            clear HS0
            clear A2 A3 A4 hnv
            go_wp2_with fail
            go_ret2
            exact ⟨by rw [HSY.out.1, HSY.out.2]; rfl, rfl⟩
          · have HN := Lib.hid (hnv rfl)
            have HS0 := A4 rfl hv1
            have HSY : Hid (RE = 0 ∧ RV = nv) := Lib.hid (by rw [HS0.1, HS0.2, HN.out]; unfold signed; rw [if_neg (by decide)]; exact ⟨rfl, rfl⟩)
            clear HS0
            clear A2 A3 A4 hnv
            go_wp2_with fail
            go_ret2
            exact ⟨by rw [HSY.out.1, HSY.out.2]; rfl, rfl⟩
          · have HSY := Lib.hid (A3 hv1)
            clear A2 A3 A4 hnv
            go_wp2_with fail
            go_ret2
            exact ⟨by rw [HSY.out.1, HSY.out.2]; rfl, rfl⟩
  · have HSH := Lib.hid (short_ok hAt hp1 _ _ htl (Or.inl h48))
    have e48n : ¬ (U[0].toNat : Int) = 48 := by
      intro h; apply h48; apply UInt8.toNat_inj.1; rw [show (48 : UInt8).toNat = 48 from rfl]; omega
    have e48 : ((U[0].toNat : Int) == 48) = false := by rw [beq_eq_false_iff_ne]; exact e48n
    clear htl hAt h48 hpU
    go_enter Tryd.func26, Tryd.ntmps26
    go_wp2_with fail
    go_loop [9, 10, 11, 12] (fun n sm lg i => ∃ (k : Nat) (nv : Int) (bs bl : Bool), k ≤ U.size ∧ i = .int .i64 k ∧ n = .int .i64 nv ∧ sm = .bool bs ∧ lg = .bool bl ∧ allDig (Dk U.data.toList U.size k) = true ∧ (U.size < k → ∃ h : U.size < U.size, U[U.size] = 46) ∧ (bs = true ↔ dval (Dk U.data.toList U.size k) ≠ 0) ∧ (bl = true ↔ 1000000000000 < dval (Dk U.data.toList U.size k)) ∧ (bl = false → nv = dval (Dk U.data.toList U.size k))) (fun _ _ _ i => U.size - (RowKit.intOf i).toNat)
    case atStart =>
      have e0 : Dk U.data.toList U.size 0 = [] := by unfold Dk; simp
      refine ⟨0, 0, false, false, by omega, rfl, rfl, rfl, rfl, by rw [e0]; rfl, fun h => absurd h (Nat.not_lt_zero _), by rw [e0]; exact ⟨fun h => absurd h (by decide), fun h => absurd rfl h⟩, by rw [e0, show dval [] = 0 from rfl]; exact ⟨fun h => absurd h (by decide), fun h => by omega⟩, fun _ => by rw [e0]; rfl⟩
    case round =>
      obtain ⟨k, nv, bs, bl, hk, rfl, rfl, rfl, rfl, hall, hdot, hbs, hbl, hnv⟩ := hrel
      obtain ⟨V, hV⟩ : ∃ V, dval (Dk U.data.toList U.size k) = V := ⟨_, rfl⟩
      rw [hV] at hbs hbl hnv
      have HA := Lib.hid hall; have HV := Lib.hid hV; have HD := Lib.hid hdot
      clear hall hV hdot
      by_cases hlt : k < U.size
      · have hkz : (k : Int) < (U.size : Int) := by omega
        have hkl : k < U.data.toList.length := by rw [size_list]; exact hlt
        by_cases hkp : k = U.size
        · exfalso; omega
        · have ekp : ((k : Int) == (U.size : Int)) = false := by rw [beq_eq_false_iff_ne]; omega
          have ekn : ¬ (k : Int) = (U.size : Int) := by omega
          cases hc : dig U[k]
          · have HSY := Lib.hid (A1.out (ok_nodig HAT.out hkl hkp hc))
            simp only [dig, decide_eq_false_iff_not] at hc
            clear hbs hbl hnv A1 A2 A3 A4
            by_cases h48 : (U[k].toNat : Int) < 48
            · have hd1 : decide ((U[k].toNat : Int) < 48) = true := by simpa using h48
              clear hc
              go_wp2_with fail
              go_ret2
              exact ⟨by rw [HSY.out.1, HSY.out.2]; rfl, rfl⟩
            · have h57 : (57 : Int) < (U[k].toNat : Int) := by omega
              have hd1 : decide ((U[k].toNat : Int) < 48) = false := by simpa using h48
              have hd2 : decide ((57 : Int) < (U[k].toNat : Int)) = true := by simpa using h57
              clear hc
              go_wp2_with fail
              go_ret2
              exact ⟨by rw [HSY.out.1, HSY.out.2]; rfl, rfl⟩
          · have hst := Dk_step U.data.toList U.size k hkl hkp
            rw [getU U k hlt] at hst
            have hall2 : allDig (Dk U.data.toList U.size (k + 1)) = true := by rw [hst, allDig_snoc, HA.out, hc]; rfl
            have hval2 : dval (Dk U.data.toList U.size (k + 1)) = V * 10 + (U[k].toNat - 48) := by rw [hst, dval_snoc, HV.out]
            have hdot2 : U.size < k + 1 → ∃ h : U.size < U.size, U[U.size] = 46 := fun h => HD.out (by omega)
            simp only [dig, decide_eq_true_eq] at hc
            obtain ⟨c, hcd⟩ : ∃ c : Nat, (U[k].toNat : Int) - 48 = (c : Int) := ⟨U[k].toNat - 48, by omega⟩
            obtain ⟨ci, hci⟩ : ∃ ci : Int, (c : Int) = ci := ⟨_, rfl⟩
            have hc9 : ci ≤ 9 := by omega
            have hc0 : (0 : Int) ≤ ci := by omega
            have hcn : U[k].toNat - 48 = c := by omega
            rw [hcn] at hval2
            have hw8 : IntKind.u8.wrap ((U[k].toNat : Int) - 48) = ci := by rw [IntKind.wrap_u8]; omega
            have hw64 : IntKind.i64.wrap ci = ci := by rw [IntKind.wrap_i64]; omega
            have hd1 : decide ((U[k].toNat : Int) < 48) = false := by simp; omega
            have hd2 : decide ((57 : Int) < (U[k].toNat : Int)) = false := by simp; omega
            have hd3 : ¬ (U[k].toNat : Int) < 48 := by omega
            have hd4 : ¬ (57 : Int) < (U[k].toNat : Int) := by omega
            have HA2 := Lib.hid hall2; have HV2 := Lib.hid hval2; have HD2 := Lib.hid hdot2
            have HCN := Lib.hid hcd; have HCI := Lib.hid hci
            clear hst hall2 hval2 hdot2 hcn hcd hc hci
            have hb4 : (bs = false ∧ bl = false ∧ V = 0 ∧ c = 0) ∨ (bs = false ∧ bl = false ∧ V = 0 ∧ c ≠ 0) ∨ (bs = true ∧ bl = false ∧ V ≠ 0 ∧ V ≤ 1000000000000 ∧ V * 10 + c ≤ 1000000000000) ∨ (bs = true ∧ bl = false ∧ V ≠ 0 ∧ V ≤ 1000000000000 ∧ 1000000000000 < V * 10 + c) ∨ (bs = true ∧ bl = true ∧ 1000000000000 < V) := by
              by_cases z : V = 0
              · have e1 : bs = false := Bool.eq_false_iff.2 (fun h => hbs.1 h z)
                have e2 : bl = false := Bool.eq_false_iff.2 (fun h => by have := hbl.1 h; omega)
                by_cases cz : c = 0
                · exact Or.inl ⟨e1, e2, z, cz⟩
                · exact Or.inr (Or.inl ⟨e1, e2, z, cz⟩)
              · have e1 : bs = true := hbs.2 z
                by_cases b : 1000000000000 < V
                · exact Or.inr (Or.inr (Or.inr (Or.inr ⟨e1, hbl.2 b, b⟩)))
                · have e2 : bl = false := Bool.eq_false_iff.2 (fun h => by have := hbl.1 h; omega)
                  by_cases b2 : 1000000000000 < V * 10 + c
                  · exact Or.inr (Or.inr (Or.inr (Or.inl ⟨e1, e2, z, by omega, b2⟩)))
                  · exact Or.inr (Or.inr (Or.inl ⟨e1, e2, z, by omega, by omega⟩))
            clear hbs hbl
            rcases hb4 with ⟨rfl, rfl, rfl, rfl⟩ | ⟨rfl, rfl, rfl, hcz⟩ | ⟨rfl, rfl, hv0, hv1, hv2⟩ | ⟨rfl, rfl, hv0, hv1, hv2⟩ | ⟨rfl, rfl, hv1⟩
            · obtain rfl : nv = 0 := by have := hnv rfl; omega
              obtain rfl : ci = 0 := by have := HCI.out; omega
              have e48 : (U[k].toNat : Int) = 48 := by have := HCN.out; omega
              have e48b : ((U[k].toNat : Int) != 48) = false := by rw [e48]; rfl
              clear hnv
              go_wp2_with fail
              go_round
              case rel => exact ⟨k + 1, 0, false, false, hlt, by go_num, rfl, rfl, rfl, HA2.out, HD2.out, by rw [HV2.out]; exact ⟨fun h => absurd h (by decide), fun h => absurd rfl h⟩, by rw [HV2.out]; exact ⟨fun h => absurd h (by decide), fun h => absurd h q0⟩, fun _ => by rw [HV2.out]; rfl⟩
              case measure => exact meas_step hlt
            · obtain rfl : nv = 0 := by have := hnv rfl; omega
              have e48 : ¬ (U[k].toNat : Int) = 48 := by have := HCN.out; omega
              have e48b : ((U[k].toNat : Int) != 48) = true := by rw [bne_iff_ne]; exact e48
              have hcb : ¬ (1000000000000 : Int) < ci := by omega
              have hwc : wrap64 ci = ci := by unfold wrap64; omega
              have HC9 := Lib.hid (show (c : Int) ≤ 9 by have := HCI.out; omega)
              clear hnv
              go_wp2_with fail
              go_round
              case rel => exact ⟨k + 1, ci, true, false, hlt, by go_num, rfl, rfl, rfl, HA2.out, HD2.out, by rw [HV2.out]; exact ⟨fun _ => q1 hcz, fun _ => rfl⟩, by rw [HV2.out]; exact ⟨fun h => absurd h (by decide), fun h => absurd h (q2 HC9.out)⟩, fun _ => by rw [HV2.out, Nat.zero_mul, Nat.zero_add]; exact HCI.out.symm⟩
              case measure => exact meas_step hlt
            · have HN := Lib.hid (hnv rfl)
              have w1 : wrap64 (10 * nv) = 10 * nv := w1l hv1 HN.out
              have w2 : wrap64 (10 * nv + ci) = 10 * nv + ci := w2l hv1 HN.out hc0 hc9
              have hng : ¬ (1000000000000 : Int) < 10 * nv + ci := ngl hv2 HN.out HCI.out
              have V0 := Lib.hid hv0; have V1 := Lib.hid hv1; have V2 := Lib.hid hv2; have HKP := Lib.hid hkp
              clear hnv hv0 hv1 hv2 hkp HCN HD HA
              go_wp2_with fail
              go_round
              case rel => exact ⟨k + 1, 10 * nv + ci, true, false, hlt, by go_num, by first | rfl | rw [w2], rfl, rfl, HA2.out, HD2.out, by rw [HV2.out]; exact ⟨fun _ => q3 V0.out, fun _ => rfl⟩, by rw [HV2.out]; exact ⟨fun h => absurd h (by decide), fun h => absurd h (q4 V2.out)⟩, fun _ => by rw [HV2.out]; exact q6 HN.out HCI.out⟩
              case measure => exact meas_step hlt
            · have HN := Lib.hid (hnv rfl)
              have w1 : wrap64 (10 * nv) = 10 * nv := w1l hv1 HN.out
              have w2 : wrap64 (10 * nv + ci) = 10 * nv + ci := w2l hv1 HN.out hc0 hc9
              have hng : (1000000000000 : Int) < 10 * nv + ci := gl hv2 HN.out HCI.out
              have V0 := Lib.hid hv0; have V1 := Lib.hid hv1; have V2 := Lib.hid hv2; have HKP := Lib.hid hkp
              clear hnv hv0 hv1 hv2 hkp HCN HD HA
              go_wp2_with fail
              go_round
              case rel => exact ⟨k + 1, 10 * nv + ci, true, true, hlt, by go_num, by first | rfl | rw [w2], rfl, rfl, HA2.out, HD2.out, by rw [HV2.out]; exact ⟨fun _ => q3 V0.out, fun _ => rfl⟩, by rw [HV2.out]; exact ⟨fun _ => V2.out, fun _ => rfl⟩, fun h => absurd h (by decide)⟩
              case measure => exact meas_step hlt
            · have V1 := Lib.hid hv1
              clear hnv hv1 hkp HCN HD HA
              go_wp2_with fail
              go_round
              case rel => exact ⟨k + 1, nv, true, true, hlt, by go_num, rfl, rfl, rfl, HA2.out, HD2.out, by rw [HV2.out]; exact ⟨fun _ => q3 (q7 V1.out), fun _ => rfl⟩, by rw [HV2.out]; exact ⟨fun _ => q5 V1.out, fun _ => rfl⟩, fun h => absurd h (by decide)⟩
              case measure => exact meas_step hlt
      · have he : k = U.size := by omega
        subst he
        obtain ⟨hok, hnum⟩ := ok_yes HAT.out HSH.out (by rw [size_list]; exact HA.out) (fun h => by rw [size_list] at h; obtain ⟨h1, h2⟩ := HD.out h; rw [← h2]; simp [List.getD, h1, ← getU])
        rw [size_list, HV.out] at hnum
        have A2 := A2.out hok; have A3 := A3.out hok; have A4 := A4.out hok
        rw [hnum] at A2 A3 A4
        clear A1 hok hnum
        have hb3 : (bs = false ∧ bl = false ∧ V = 0) ∨ (bs = true ∧ bl = false ∧ V ≠ 0 ∧ V ≤ 1000000000000) ∨ (bs = true ∧ bl = true ∧ 1000000000000 < V) := by
          by_cases z : V = 0
          · exact Or.inl ⟨Bool.eq_false_iff.2 (fun h => hbs.1 h z), Bool.eq_false_iff.2 (fun h => by have := hbl.1 h; omega), z⟩
          · have e1 : bs = true := hbs.2 z
            by_cases b : 1000000000000 < V
            · exact Or.inr (Or.inr ⟨e1, hbl.2 b, b⟩)
            · exact Or.inr (Or.inl ⟨e1, Bool.eq_false_iff.2 (fun h => by have := hbl.1 h; omega), z, by omega⟩)
        clear hbs hbl
        rcases hb3 with ⟨rfl, rfl, rfl⟩ | ⟨rfl, rfl, hv0, hv1⟩ | ⟨rfl, rfl, hv1⟩
        · obtain rfl : nv = 0 := by have := hnv rfl; omega
          have HS0 := A4 rfl (by omega)
          have HSY : Hid (RE = 0 ∧ RV = 0) := Lib.hid (by rw [HS0.1, HS0.2]; unfold signed; rw [if_neg (by decide)]; exact ⟨rfl, rfl⟩)
          clear HS0
          clear A2 A3 A4 hnv
          go_wp2_with fail
          go_ret2
          exact ⟨by rw [HSY.out.1, HSY.out.2]; rfl, rfl⟩
        · have HN := Lib.hid (hnv rfl)
          have HS0 := A4 rfl hv1
          have HSY : Hid (RE = 0 ∧ RV = nv) := Lib.hid (by rw [HS0.1, HS0.2, HN.out]; unfold signed; rw [if_neg (by decide)]; exact ⟨rfl, rfl⟩)
          clear HS0
          clear A2 A3 A4 hnv
          go_wp2_with fail
          go_ret2
          exact ⟨by rw [HSY.out.1, HSY.out.2]; rfl, rfl⟩
        · have HSY := Lib.hid (A3 hv1)
          clear A2 A3 A4 hnv
          go_wp2_with fail
          go_ret2
          exact ⟨by rw [HSY.out.1, HSY.out.2]; rfl, rfl⟩

set_option maxRecDepth 100000 in
set_option maxHeartbeats 8000000 in
theorem rparse_p1 (U : ByteArray) (d p : Nat) (RV RE : Int) (h0 : 0 < U.size) (h1 : U[0] ≠ 45) (hUs : U.size ≤ 1000000) (hAt : At U.data.toList d p) (hp1 : 1 ≤ p)
    (hd : 1 ≤ d) (hd4 : d ≤ 4)
    (A1 : pOk U.data.toList d = false → RE = 2 ∧ RV = 0) (A2 : pOk U.data.toList d = true → false = true → pNum U.data.toList d = 0 → RE = 2 ∧ RV = 0) (A3 : pOk U.data.toList d = true → 1000000000000 < pNum U.data.toList d → RE = 6 ∧ RV = 0)
    (A4 : pOk U.data.toList d = true → (false && pNum U.data.toList d == 0) = false → pNum U.data.toList d ≤ 1000000000000 → RE = 0 ∧ RV = signed false (pNum U.data.toList d)) (w : World) :
    Calls Tryd.prog 26 #[.string U, .int .i64 d] w fun e w' => e = .returned (.tuple #[.int .i64 RV, .int .i64 RE]) ∧ w = w' := by
  have hU0 : 0 < U.size := by have := hAt.le; rw [size_list] at this; omega
  obtain ⟨tl, htl⟩ := head_of U hU0
  have hU0z : (0 : Int) < (U.size : Int) := by omega
  have h45n : ¬ (U[0].toNat : Int) = 45 := by
    intro h; apply h1; apply UInt8.toNat_inj.1; rw [show (45 : UInt8).toNat = 45 from rfl]; omega
  have h45 : ((U[0].toNat : Int) == 45) = false := by rw [beq_eq_false_iff_ne]; exact h45n
  clear h1
  have hpU : (U.size : Int) - d - 1 = (p : Int) := by
    rcases hAt with ⟨e, _⟩ | ⟨_, e⟩
    · omega
    · rw [size_list] at e; omega
  have hwa : wrap64 ((U.size : Int) - d) = (U.size : Int) - d := by unfold wrap64; omega
  have hdz : (0 : Int) < (d : Int) := by omega
  have hd1 : ¬ (d : Int) < 0 := by omega
  have hd2 : ¬ (4 : Int) < (d : Int) := by omega
  have hW1 : ¬ (p : Int) < 1 := by omega
  have A1 := Lib.hid A1; have A2 := Lib.hid A2; have A3 := Lib.hid A3; have A4 := Lib.hid A4
  have HPU := Lib.hid hpU
  have HAT := Lib.hid hAt
  by_cases h48 : U[0] = 48
  · have e48 : ((U[0].toNat : Int) == 48) = true := by rw [h48]; rfl
    have e48n : (U[0].toNat : Int) = 48 := by rw [h48]; rfl
    by_cases hp : 1 < p
    · have HSY := Lib.hid (A1.out (ok_zero hAt hp _ _ htl h48))
      have hpz : (1 : Int) < (p : Int) := by omega
      clear A1 A2 A3 A4 htl hAt h48
      go_enter Tryd.func26, Tryd.ntmps26
      go_wp2_with fail
      go_ret2
      exact ⟨by rw [HSY.out.1, HSY.out.2]; rfl, rfl⟩
    · have HSH := Lib.hid (short_ok hAt hp1 _ _ htl (Or.inr (by omega)))
      have hpz : ¬ (1 : Int) < (p : Int) := by omega
      clear htl hAt h48
      go_enter Tryd.func26, Tryd.ntmps26
      go_wp2_with fail
      clear hpU
      go_loop [9, 10, 11, 12] (fun n sm lg i => ∃ (k : Nat) (nv : Int) (bs bl : Bool), k ≤ U.size ∧ i = .int .i64 k ∧ n = .int .i64 nv ∧ sm = .bool bs ∧ lg = .bool bl ∧ allDig (Dk U.data.toList p k) = true ∧ (p < k → ∃ h : p < U.size, U[p] = 46) ∧ (bs = true ↔ dval (Dk U.data.toList p k) ≠ 0) ∧ (bl = true ↔ 1000000000000 < dval (Dk U.data.toList p k)) ∧ (bl = false → nv = dval (Dk U.data.toList p k))) (fun _ _ _ i => U.size - (RowKit.intOf i).toNat)
      case atStart =>
        have e0 : Dk U.data.toList p 0 = [] := by unfold Dk; simp
        refine ⟨0, 0, false, false, by omega, rfl, rfl, rfl, rfl, by rw [e0]; rfl, fun h => absurd h (Nat.not_lt_zero _), by rw [e0]; exact ⟨fun h => absurd h (by decide), fun h => absurd rfl h⟩, by rw [e0, show dval [] = 0 from rfl]; exact ⟨fun h => absurd h (by decide), fun h => by omega⟩, fun _ => by rw [e0]; rfl⟩
      case round =>
        obtain ⟨k, nv, bs, bl, hk, rfl, rfl, rfl, rfl, hall, hdot, hbs, hbl, hnv⟩ := hrel
        obtain ⟨V, hV⟩ : ∃ V, dval (Dk U.data.toList p k) = V := ⟨_, rfl⟩
        rw [hV] at hbs hbl hnv
        have HA := Lib.hid hall; have HV := Lib.hid hV; have HD := Lib.hid hdot
        clear hall hV hdot
        by_cases hlt : k < U.size
        · have hkz : (k : Int) < (U.size : Int) := by omega
          have hkl : k < U.data.toList.length := by rw [size_list]; exact hlt
          by_cases hkp : k = p
          · subst hkp
            have HSK := Lib.hid (Dk_skip U.data.toList k hkl)
            by_cases h46 : U[k] = 46
            · have e46 : ((U[k].toNat : Int) != 46) = false := by rw [h46]; rfl
              have e46n : (U[k].toNat : Int) = 46 := by rw [h46]; rfl
              have H46 := Lib.hid h46; have HBS := Lib.hid hbs; have HBL := Lib.hid hbl; have HNV := Lib.hid hnv
              clear h46 hbs hbl hnv
              go_wp2_with fail
              go_round
              case rel => exact ⟨k + 1, nv, bs, bl, by omega, by go_num, rfl, rfl, rfl, by rw [HSK.out]; exact HA.out, fun _ => ⟨hlt, H46.out⟩, by rw [HSK.out, HV.out]; exact HBS.out, by rw [HSK.out, HV.out]; exact HBL.out, fun h => by rw [HSK.out, HV.out]; exact HNV.out h⟩
              case measure => exact meas_step hlt
            · have HSY := Lib.hid (A1.out (ok_nodot HAT.out hkl h46))
              have h46n : ¬ (U[k].toNat : Int) = 46 := by
                intro h; apply h46; apply UInt8.toNat_inj.1; rw [show (46 : UInt8).toNat = 46 from rfl]; omega
              have e46 : ((U[k].toNat : Int) != 46) = true := by rw [bne_iff_ne]; exact h46n
              clear h46 hbs hbl hnv A1 A2 A3 A4
              go_wp2_with fail
              go_ret2
              exact ⟨by rw [HSY.out.1, HSY.out.2]; rfl, rfl⟩
          · have ekp : ((k : Int) == (p : Int)) = false := by rw [beq_eq_false_iff_ne]; omega
            have ekn : ¬ (k : Int) = (p : Int) := by omega
            cases hc : dig U[k]
            · have HSY := Lib.hid (A1.out (ok_nodig HAT.out hkl hkp hc))
              simp only [dig, decide_eq_false_iff_not] at hc
              clear hbs hbl hnv A1 A2 A3 A4
              by_cases h48 : (U[k].toNat : Int) < 48
              · have hd1 : decide ((U[k].toNat : Int) < 48) = true := by simpa using h48
                clear hc
                go_wp2_with fail
                go_ret2
                exact ⟨by rw [HSY.out.1, HSY.out.2]; rfl, rfl⟩
              · have h57 : (57 : Int) < (U[k].toNat : Int) := by omega
                have hd1 : decide ((U[k].toNat : Int) < 48) = false := by simpa using h48
                have hd2 : decide ((57 : Int) < (U[k].toNat : Int)) = true := by simpa using h57
                clear hc
                go_wp2_with fail
                go_ret2
                exact ⟨by rw [HSY.out.1, HSY.out.2]; rfl, rfl⟩
            · have hst := Dk_step U.data.toList p k hkl hkp
              rw [getU U k hlt] at hst
              have hall2 : allDig (Dk U.data.toList p (k + 1)) = true := by rw [hst, allDig_snoc, HA.out, hc]; rfl
              have hval2 : dval (Dk U.data.toList p (k + 1)) = V * 10 + (U[k].toNat - 48) := by rw [hst, dval_snoc, HV.out]
              have hdot2 : p < k + 1 → ∃ h : p < U.size, U[p] = 46 := fun h => HD.out (by omega)
              simp only [dig, decide_eq_true_eq] at hc
              obtain ⟨c, hcd⟩ : ∃ c : Nat, (U[k].toNat : Int) - 48 = (c : Int) := ⟨U[k].toNat - 48, by omega⟩
              obtain ⟨ci, hci⟩ : ∃ ci : Int, (c : Int) = ci := ⟨_, rfl⟩
              have hc9 : ci ≤ 9 := by omega
              have hc0 : (0 : Int) ≤ ci := by omega
              have hcn : U[k].toNat - 48 = c := by omega
              rw [hcn] at hval2
              have hw8 : IntKind.u8.wrap ((U[k].toNat : Int) - 48) = ci := by rw [IntKind.wrap_u8]; omega
              have hw64 : IntKind.i64.wrap ci = ci := by rw [IntKind.wrap_i64]; omega
              have hd1 : decide ((U[k].toNat : Int) < 48) = false := by simp; omega
              have hd2 : decide ((57 : Int) < (U[k].toNat : Int)) = false := by simp; omega
              have hd3 : ¬ (U[k].toNat : Int) < 48 := by omega
              have hd4 : ¬ (57 : Int) < (U[k].toNat : Int) := by omega
              have HA2 := Lib.hid hall2; have HV2 := Lib.hid hval2; have HD2 := Lib.hid hdot2
              have HCN := Lib.hid hcd; have HCI := Lib.hid hci
              clear hst hall2 hval2 hdot2 hcn hcd hc hci
              have hb4 : (bs = false ∧ bl = false ∧ V = 0 ∧ c = 0) ∨ (bs = false ∧ bl = false ∧ V = 0 ∧ c ≠ 0) ∨ (bs = true ∧ bl = false ∧ V ≠ 0 ∧ V ≤ 1000000000000 ∧ V * 10 + c ≤ 1000000000000) ∨ (bs = true ∧ bl = false ∧ V ≠ 0 ∧ V ≤ 1000000000000 ∧ 1000000000000 < V * 10 + c) ∨ (bs = true ∧ bl = true ∧ 1000000000000 < V) := by
                by_cases z : V = 0
                · have e1 : bs = false := Bool.eq_false_iff.2 (fun h => hbs.1 h z)
                  have e2 : bl = false := Bool.eq_false_iff.2 (fun h => by have := hbl.1 h; omega)
                  by_cases cz : c = 0
                  · exact Or.inl ⟨e1, e2, z, cz⟩
                  · exact Or.inr (Or.inl ⟨e1, e2, z, cz⟩)
                · have e1 : bs = true := hbs.2 z
                  by_cases b : 1000000000000 < V
                  · exact Or.inr (Or.inr (Or.inr (Or.inr ⟨e1, hbl.2 b, b⟩)))
                  · have e2 : bl = false := Bool.eq_false_iff.2 (fun h => by have := hbl.1 h; omega)
                    by_cases b2 : 1000000000000 < V * 10 + c
                    · exact Or.inr (Or.inr (Or.inr (Or.inl ⟨e1, e2, z, by omega, b2⟩)))
                    · exact Or.inr (Or.inr (Or.inl ⟨e1, e2, z, by omega, by omega⟩))
              clear hbs hbl
              rcases hb4 with ⟨rfl, rfl, rfl, rfl⟩ | ⟨rfl, rfl, rfl, hcz⟩ | ⟨rfl, rfl, hv0, hv1, hv2⟩ | ⟨rfl, rfl, hv0, hv1, hv2⟩ | ⟨rfl, rfl, hv1⟩
              · obtain rfl : nv = 0 := by have := hnv rfl; omega
                obtain rfl : ci = 0 := by have := HCI.out; omega
                have e48 : (U[k].toNat : Int) = 48 := by have := HCN.out; omega
                have e48b : ((U[k].toNat : Int) != 48) = false := by rw [e48]; rfl
                clear hnv
                go_wp2_with fail
                go_round
                case rel => exact ⟨k + 1, 0, false, false, hlt, by go_num, rfl, rfl, rfl, HA2.out, HD2.out, by rw [HV2.out]; exact ⟨fun h => absurd h (by decide), fun h => absurd rfl h⟩, by rw [HV2.out]; exact ⟨fun h => absurd h (by decide), fun h => absurd h q0⟩, fun _ => by rw [HV2.out]; rfl⟩
                case measure => exact meas_step hlt
              · obtain rfl : nv = 0 := by have := hnv rfl; omega
                have e48 : ¬ (U[k].toNat : Int) = 48 := by have := HCN.out; omega
                have e48b : ((U[k].toNat : Int) != 48) = true := by rw [bne_iff_ne]; exact e48
                have hcb : ¬ (1000000000000 : Int) < ci := by omega
                have hwc : wrap64 ci = ci := by unfold wrap64; omega
                have HC9 := Lib.hid (show (c : Int) ≤ 9 by have := HCI.out; omega)
                clear hnv
                go_wp2_with fail
                go_round
                case rel => exact ⟨k + 1, ci, true, false, hlt, by go_num, rfl, rfl, rfl, HA2.out, HD2.out, by rw [HV2.out]; exact ⟨fun _ => q1 hcz, fun _ => rfl⟩, by rw [HV2.out]; exact ⟨fun h => absurd h (by decide), fun h => absurd h (q2 HC9.out)⟩, fun _ => by rw [HV2.out, Nat.zero_mul, Nat.zero_add]; exact HCI.out.symm⟩
                case measure => exact meas_step hlt
              · have HN := Lib.hid (hnv rfl)
                have w1 : wrap64 (10 * nv) = 10 * nv := w1l hv1 HN.out
                have w2 : wrap64 (10 * nv + ci) = 10 * nv + ci := w2l hv1 HN.out hc0 hc9
                have hng : ¬ (1000000000000 : Int) < 10 * nv + ci := ngl hv2 HN.out HCI.out
                have V0 := Lib.hid hv0; have V1 := Lib.hid hv1; have V2 := Lib.hid hv2; have HKP := Lib.hid hkp
                clear hnv hv0 hv1 hv2 hkp HCN HD HA
                go_wp2_with fail
                go_round
                case rel => exact ⟨k + 1, 10 * nv + ci, true, false, hlt, by go_num, by first | rfl | rw [w2], rfl, rfl, HA2.out, HD2.out, by rw [HV2.out]; exact ⟨fun _ => q3 V0.out, fun _ => rfl⟩, by rw [HV2.out]; exact ⟨fun h => absurd h (by decide), fun h => absurd h (q4 V2.out)⟩, fun _ => by rw [HV2.out]; exact q6 HN.out HCI.out⟩
                case measure => exact meas_step hlt
              · have HN := Lib.hid (hnv rfl)
                have w1 : wrap64 (10 * nv) = 10 * nv := w1l hv1 HN.out
                have w2 : wrap64 (10 * nv + ci) = 10 * nv + ci := w2l hv1 HN.out hc0 hc9
                have hng : (1000000000000 : Int) < 10 * nv + ci := gl hv2 HN.out HCI.out
                have V0 := Lib.hid hv0; have V1 := Lib.hid hv1; have V2 := Lib.hid hv2; have HKP := Lib.hid hkp
                clear hnv hv0 hv1 hv2 hkp HCN HD HA
                go_wp2_with fail
                go_round
                case rel => exact ⟨k + 1, 10 * nv + ci, true, true, hlt, by go_num, by first | rfl | rw [w2], rfl, rfl, HA2.out, HD2.out, by rw [HV2.out]; exact ⟨fun _ => q3 V0.out, fun _ => rfl⟩, by rw [HV2.out]; exact ⟨fun _ => V2.out, fun _ => rfl⟩, fun h => absurd h (by decide)⟩
                case measure => exact meas_step hlt
              · have V1 := Lib.hid hv1
                clear hnv hv1 hkp HCN HD HA
                go_wp2_with fail
                go_round
                case rel => exact ⟨k + 1, nv, true, true, hlt, by go_num, rfl, rfl, rfl, HA2.out, HD2.out, by rw [HV2.out]; exact ⟨fun _ => q3 (q7 V1.out), fun _ => rfl⟩, by rw [HV2.out]; exact ⟨fun _ => q5 V1.out, fun _ => rfl⟩, fun h => absurd h (by decide)⟩
                case measure => exact meas_step hlt
        · have he : k = U.size := by omega
          subst he
          obtain ⟨hok, hnum⟩ := ok_yes HAT.out HSH.out (by rw [size_list]; exact HA.out) (fun h => by rw [size_list] at h; obtain ⟨h1, h2⟩ := HD.out h; rw [← h2]; simp [List.getD, h1, ← getU])
          rw [size_list, HV.out] at hnum
          have A2 := A2.out hok; have A3 := A3.out hok; have A4 := A4.out hok
          rw [hnum] at A2 A3 A4
          clear A1 hok hnum
          have hb3 : (bs = false ∧ bl = false ∧ V = 0) ∨ (bs = true ∧ bl = false ∧ V ≠ 0 ∧ V ≤ 1000000000000) ∨ (bs = true ∧ bl = true ∧ 1000000000000 < V) := by
            by_cases z : V = 0
            · exact Or.inl ⟨Bool.eq_false_iff.2 (fun h => hbs.1 h z), Bool.eq_false_iff.2 (fun h => by have := hbl.1 h; omega), z⟩
            · have e1 : bs = true := hbs.2 z
              by_cases b : 1000000000000 < V
              · exact Or.inr (Or.inr ⟨e1, hbl.2 b, b⟩)
              · exact Or.inr (Or.inl ⟨e1, Bool.eq_false_iff.2 (fun h => by have := hbl.1 h; omega), z, by omega⟩)
          clear hbs hbl
          rcases hb3 with ⟨rfl, rfl, rfl⟩ | ⟨rfl, rfl, hv0, hv1⟩ | ⟨rfl, rfl, hv1⟩
          · obtain rfl : nv = 0 := by have := hnv rfl; omega
            have HS0 := A4 rfl (by omega)
            have HSY : Hid (RE = 0 ∧ RV = 0) := Lib.hid (by rw [HS0.1, HS0.2]; unfold signed; rw [if_neg (by decide)]; exact ⟨rfl, rfl⟩)
            clear HS0
            clear A2 A3 A4 hnv
            go_wp2_with fail
            go_ret2
            exact ⟨by rw [HSY.out.1, HSY.out.2]; rfl, rfl⟩
          · have HN := Lib.hid (hnv rfl)
            have HS0 := A4 rfl hv1
            have HSY : Hid (RE = 0 ∧ RV = nv) := Lib.hid (by rw [HS0.1, HS0.2, HN.out]; unfold signed; rw [if_neg (by decide)]; exact ⟨rfl, rfl⟩)
            clear HS0
            clear A2 A3 A4 hnv
            go_wp2_with fail
            go_ret2
            exact ⟨by rw [HSY.out.1, HSY.out.2]; rfl, rfl⟩
          · have HSY := Lib.hid (A3 hv1)
            clear A2 A3 A4 hnv
            go_wp2_with fail
            go_ret2
            exact ⟨by rw [HSY.out.1, HSY.out.2]; rfl, rfl⟩
  · have HSH := Lib.hid (short_ok hAt hp1 _ _ htl (Or.inl h48))
    have e48n : ¬ (U[0].toNat : Int) = 48 := by
      intro h; apply h48; apply UInt8.toNat_inj.1; rw [show (48 : UInt8).toNat = 48 from rfl]; omega
    have e48 : ((U[0].toNat : Int) == 48) = false := by rw [beq_eq_false_iff_ne]; exact e48n
    clear htl hAt h48
    go_enter Tryd.func26, Tryd.ntmps26
    go_wp2_with fail
    clear hpU
    go_loop [9, 10, 11, 12] (fun n sm lg i => ∃ (k : Nat) (nv : Int) (bs bl : Bool), k ≤ U.size ∧ i = .int .i64 k ∧ n = .int .i64 nv ∧ sm = .bool bs ∧ lg = .bool bl ∧ allDig (Dk U.data.toList p k) = true ∧ (p < k → ∃ h : p < U.size, U[p] = 46) ∧ (bs = true ↔ dval (Dk U.data.toList p k) ≠ 0) ∧ (bl = true ↔ 1000000000000 < dval (Dk U.data.toList p k)) ∧ (bl = false → nv = dval (Dk U.data.toList p k))) (fun _ _ _ i => U.size - (RowKit.intOf i).toNat)
    case atStart =>
      have e0 : Dk U.data.toList p 0 = [] := by unfold Dk; simp
      refine ⟨0, 0, false, false, by omega, rfl, rfl, rfl, rfl, by rw [e0]; rfl, fun h => absurd h (Nat.not_lt_zero _), by rw [e0]; exact ⟨fun h => absurd h (by decide), fun h => absurd rfl h⟩, by rw [e0, show dval [] = 0 from rfl]; exact ⟨fun h => absurd h (by decide), fun h => by omega⟩, fun _ => by rw [e0]; rfl⟩
    case round =>
      obtain ⟨k, nv, bs, bl, hk, rfl, rfl, rfl, rfl, hall, hdot, hbs, hbl, hnv⟩ := hrel
      obtain ⟨V, hV⟩ : ∃ V, dval (Dk U.data.toList p k) = V := ⟨_, rfl⟩
      rw [hV] at hbs hbl hnv
      have HA := Lib.hid hall; have HV := Lib.hid hV; have HD := Lib.hid hdot
      clear hall hV hdot
      by_cases hlt : k < U.size
      · have hkz : (k : Int) < (U.size : Int) := by omega
        have hkl : k < U.data.toList.length := by rw [size_list]; exact hlt
        by_cases hkp : k = p
        · subst hkp
          have HSK := Lib.hid (Dk_skip U.data.toList k hkl)
          by_cases h46 : U[k] = 46
          · have e46 : ((U[k].toNat : Int) != 46) = false := by rw [h46]; rfl
            have e46n : (U[k].toNat : Int) = 46 := by rw [h46]; rfl
            have H46 := Lib.hid h46; have HBS := Lib.hid hbs; have HBL := Lib.hid hbl; have HNV := Lib.hid hnv
            clear h46 hbs hbl hnv
            go_wp2_with fail
            go_round
            case rel => exact ⟨k + 1, nv, bs, bl, by omega, by go_num, rfl, rfl, rfl, by rw [HSK.out]; exact HA.out, fun _ => ⟨hlt, H46.out⟩, by rw [HSK.out, HV.out]; exact HBS.out, by rw [HSK.out, HV.out]; exact HBL.out, fun h => by rw [HSK.out, HV.out]; exact HNV.out h⟩
            case measure => exact meas_step hlt
          · have HSY := Lib.hid (A1.out (ok_nodot HAT.out hkl h46))
            have h46n : ¬ (U[k].toNat : Int) = 46 := by
              intro h; apply h46; apply UInt8.toNat_inj.1; rw [show (46 : UInt8).toNat = 46 from rfl]; omega
            have e46 : ((U[k].toNat : Int) != 46) = true := by rw [bne_iff_ne]; exact h46n
            clear h46 hbs hbl hnv A1 A2 A3 A4
            go_wp2_with fail
            go_ret2
            exact ⟨by rw [HSY.out.1, HSY.out.2]; rfl, rfl⟩
        · have ekp : ((k : Int) == (p : Int)) = false := by rw [beq_eq_false_iff_ne]; omega
          have ekn : ¬ (k : Int) = (p : Int) := by omega
          cases hc : dig U[k]
          · have HSY := Lib.hid (A1.out (ok_nodig HAT.out hkl hkp hc))
            simp only [dig, decide_eq_false_iff_not] at hc
            clear hbs hbl hnv A1 A2 A3 A4
            by_cases h48 : (U[k].toNat : Int) < 48
            · have hd1 : decide ((U[k].toNat : Int) < 48) = true := by simpa using h48
              clear hc
              go_wp2_with fail
              go_ret2
              exact ⟨by rw [HSY.out.1, HSY.out.2]; rfl, rfl⟩
            · have h57 : (57 : Int) < (U[k].toNat : Int) := by omega
              have hd1 : decide ((U[k].toNat : Int) < 48) = false := by simpa using h48
              have hd2 : decide ((57 : Int) < (U[k].toNat : Int)) = true := by simpa using h57
              clear hc
              go_wp2_with fail
              go_ret2
              exact ⟨by rw [HSY.out.1, HSY.out.2]; rfl, rfl⟩
          · have hst := Dk_step U.data.toList p k hkl hkp
            rw [getU U k hlt] at hst
            have hall2 : allDig (Dk U.data.toList p (k + 1)) = true := by rw [hst, allDig_snoc, HA.out, hc]; rfl
            have hval2 : dval (Dk U.data.toList p (k + 1)) = V * 10 + (U[k].toNat - 48) := by rw [hst, dval_snoc, HV.out]
            have hdot2 : p < k + 1 → ∃ h : p < U.size, U[p] = 46 := fun h => HD.out (by omega)
            simp only [dig, decide_eq_true_eq] at hc
            obtain ⟨c, hcd⟩ : ∃ c : Nat, (U[k].toNat : Int) - 48 = (c : Int) := ⟨U[k].toNat - 48, by omega⟩
            obtain ⟨ci, hci⟩ : ∃ ci : Int, (c : Int) = ci := ⟨_, rfl⟩
            have hc9 : ci ≤ 9 := by omega
            have hc0 : (0 : Int) ≤ ci := by omega
            have hcn : U[k].toNat - 48 = c := by omega
            rw [hcn] at hval2
            have hw8 : IntKind.u8.wrap ((U[k].toNat : Int) - 48) = ci := by rw [IntKind.wrap_u8]; omega
            have hw64 : IntKind.i64.wrap ci = ci := by rw [IntKind.wrap_i64]; omega
            have hd1 : decide ((U[k].toNat : Int) < 48) = false := by simp; omega
            have hd2 : decide ((57 : Int) < (U[k].toNat : Int)) = false := by simp; omega
            have hd3 : ¬ (U[k].toNat : Int) < 48 := by omega
            have hd4 : ¬ (57 : Int) < (U[k].toNat : Int) := by omega
            have HA2 := Lib.hid hall2; have HV2 := Lib.hid hval2; have HD2 := Lib.hid hdot2
            have HCN := Lib.hid hcd; have HCI := Lib.hid hci
            clear hst hall2 hval2 hdot2 hcn hcd hc hci
            have hb4 : (bs = false ∧ bl = false ∧ V = 0 ∧ c = 0) ∨ (bs = false ∧ bl = false ∧ V = 0 ∧ c ≠ 0) ∨ (bs = true ∧ bl = false ∧ V ≠ 0 ∧ V ≤ 1000000000000 ∧ V * 10 + c ≤ 1000000000000) ∨ (bs = true ∧ bl = false ∧ V ≠ 0 ∧ V ≤ 1000000000000 ∧ 1000000000000 < V * 10 + c) ∨ (bs = true ∧ bl = true ∧ 1000000000000 < V) := by
              by_cases z : V = 0
              · have e1 : bs = false := Bool.eq_false_iff.2 (fun h => hbs.1 h z)
                have e2 : bl = false := Bool.eq_false_iff.2 (fun h => by have := hbl.1 h; omega)
                by_cases cz : c = 0
                · exact Or.inl ⟨e1, e2, z, cz⟩
                · exact Or.inr (Or.inl ⟨e1, e2, z, cz⟩)
              · have e1 : bs = true := hbs.2 z
                by_cases b : 1000000000000 < V
                · exact Or.inr (Or.inr (Or.inr (Or.inr ⟨e1, hbl.2 b, b⟩)))
                · have e2 : bl = false := Bool.eq_false_iff.2 (fun h => by have := hbl.1 h; omega)
                  by_cases b2 : 1000000000000 < V * 10 + c
                  · exact Or.inr (Or.inr (Or.inr (Or.inl ⟨e1, e2, z, by omega, b2⟩)))
                  · exact Or.inr (Or.inr (Or.inl ⟨e1, e2, z, by omega, by omega⟩))
            clear hbs hbl
            rcases hb4 with ⟨rfl, rfl, rfl, rfl⟩ | ⟨rfl, rfl, rfl, hcz⟩ | ⟨rfl, rfl, hv0, hv1, hv2⟩ | ⟨rfl, rfl, hv0, hv1, hv2⟩ | ⟨rfl, rfl, hv1⟩
            · obtain rfl : nv = 0 := by have := hnv rfl; omega
              obtain rfl : ci = 0 := by have := HCI.out; omega
              have e48 : (U[k].toNat : Int) = 48 := by have := HCN.out; omega
              have e48b : ((U[k].toNat : Int) != 48) = false := by rw [e48]; rfl
              clear hnv
              go_wp2_with fail
              go_round
              case rel => exact ⟨k + 1, 0, false, false, hlt, by go_num, rfl, rfl, rfl, HA2.out, HD2.out, by rw [HV2.out]; exact ⟨fun h => absurd h (by decide), fun h => absurd rfl h⟩, by rw [HV2.out]; exact ⟨fun h => absurd h (by decide), fun h => absurd h q0⟩, fun _ => by rw [HV2.out]; rfl⟩
              case measure => exact meas_step hlt
            · obtain rfl : nv = 0 := by have := hnv rfl; omega
              have e48 : ¬ (U[k].toNat : Int) = 48 := by have := HCN.out; omega
              have e48b : ((U[k].toNat : Int) != 48) = true := by rw [bne_iff_ne]; exact e48
              have hcb : ¬ (1000000000000 : Int) < ci := by omega
              have hwc : wrap64 ci = ci := by unfold wrap64; omega
              have HC9 := Lib.hid (show (c : Int) ≤ 9 by have := HCI.out; omega)
              clear hnv
              go_wp2_with fail
              go_round
              case rel => exact ⟨k + 1, ci, true, false, hlt, by go_num, rfl, rfl, rfl, HA2.out, HD2.out, by rw [HV2.out]; exact ⟨fun _ => q1 hcz, fun _ => rfl⟩, by rw [HV2.out]; exact ⟨fun h => absurd h (by decide), fun h => absurd h (q2 HC9.out)⟩, fun _ => by rw [HV2.out, Nat.zero_mul, Nat.zero_add]; exact HCI.out.symm⟩
              case measure => exact meas_step hlt
            · have HN := Lib.hid (hnv rfl)
              have w1 : wrap64 (10 * nv) = 10 * nv := w1l hv1 HN.out
              have w2 : wrap64 (10 * nv + ci) = 10 * nv + ci := w2l hv1 HN.out hc0 hc9
              have hng : ¬ (1000000000000 : Int) < 10 * nv + ci := ngl hv2 HN.out HCI.out
              have V0 := Lib.hid hv0; have V1 := Lib.hid hv1; have V2 := Lib.hid hv2; have HKP := Lib.hid hkp
              clear hnv hv0 hv1 hv2 hkp HCN HD HA
              go_wp2_with fail
              go_round
              case rel => exact ⟨k + 1, 10 * nv + ci, true, false, hlt, by go_num, by first | rfl | rw [w2], rfl, rfl, HA2.out, HD2.out, by rw [HV2.out]; exact ⟨fun _ => q3 V0.out, fun _ => rfl⟩, by rw [HV2.out]; exact ⟨fun h => absurd h (by decide), fun h => absurd h (q4 V2.out)⟩, fun _ => by rw [HV2.out]; exact q6 HN.out HCI.out⟩
              case measure => exact meas_step hlt
            · have HN := Lib.hid (hnv rfl)
              have w1 : wrap64 (10 * nv) = 10 * nv := w1l hv1 HN.out
              have w2 : wrap64 (10 * nv + ci) = 10 * nv + ci := w2l hv1 HN.out hc0 hc9
              have hng : (1000000000000 : Int) < 10 * nv + ci := gl hv2 HN.out HCI.out
              have V0 := Lib.hid hv0; have V1 := Lib.hid hv1; have V2 := Lib.hid hv2; have HKP := Lib.hid hkp
              clear hnv hv0 hv1 hv2 hkp HCN HD HA
              go_wp2_with fail
              go_round
              case rel => exact ⟨k + 1, 10 * nv + ci, true, true, hlt, by go_num, by first | rfl | rw [w2], rfl, rfl, HA2.out, HD2.out, by rw [HV2.out]; exact ⟨fun _ => q3 V0.out, fun _ => rfl⟩, by rw [HV2.out]; exact ⟨fun _ => V2.out, fun _ => rfl⟩, fun h => absurd h (by decide)⟩
              case measure => exact meas_step hlt
            · have V1 := Lib.hid hv1
              clear hnv hv1 hkp HCN HD HA
              go_wp2_with fail
              go_round
              case rel => exact ⟨k + 1, nv, true, true, hlt, by go_num, rfl, rfl, rfl, HA2.out, HD2.out, by rw [HV2.out]; exact ⟨fun _ => q3 (q7 V1.out), fun _ => rfl⟩, by rw [HV2.out]; exact ⟨fun _ => q5 V1.out, fun _ => rfl⟩, fun h => absurd h (by decide)⟩
              case measure => exact meas_step hlt
      · have he : k = U.size := by omega
        subst he
        obtain ⟨hok, hnum⟩ := ok_yes HAT.out HSH.out (by rw [size_list]; exact HA.out) (fun h => by rw [size_list] at h; obtain ⟨h1, h2⟩ := HD.out h; rw [← h2]; simp [List.getD, h1, ← getU])
        rw [size_list, HV.out] at hnum
        have A2 := A2.out hok; have A3 := A3.out hok; have A4 := A4.out hok
        rw [hnum] at A2 A3 A4
        clear A1 hok hnum
        have hb3 : (bs = false ∧ bl = false ∧ V = 0) ∨ (bs = true ∧ bl = false ∧ V ≠ 0 ∧ V ≤ 1000000000000) ∨ (bs = true ∧ bl = true ∧ 1000000000000 < V) := by
          by_cases z : V = 0
          · exact Or.inl ⟨Bool.eq_false_iff.2 (fun h => hbs.1 h z), Bool.eq_false_iff.2 (fun h => by have := hbl.1 h; omega), z⟩
          · have e1 : bs = true := hbs.2 z
            by_cases b : 1000000000000 < V
            · exact Or.inr (Or.inr ⟨e1, hbl.2 b, b⟩)
            · exact Or.inr (Or.inl ⟨e1, Bool.eq_false_iff.2 (fun h => by have := hbl.1 h; omega), z, by omega⟩)
        clear hbs hbl
        rcases hb3 with ⟨rfl, rfl, rfl⟩ | ⟨rfl, rfl, hv0, hv1⟩ | ⟨rfl, rfl, hv1⟩
        · obtain rfl : nv = 0 := by have := hnv rfl; omega
          have HS0 := A4 rfl (by omega)
          have HSY : Hid (RE = 0 ∧ RV = 0) := Lib.hid (by rw [HS0.1, HS0.2]; unfold signed; rw [if_neg (by decide)]; exact ⟨rfl, rfl⟩)
          clear HS0
          clear A2 A3 A4 hnv
          go_wp2_with fail
          go_ret2
          exact ⟨by rw [HSY.out.1, HSY.out.2]; rfl, rfl⟩
        · have HN := Lib.hid (hnv rfl)
          have HS0 := A4 rfl hv1
          have HSY : Hid (RE = 0 ∧ RV = nv) := Lib.hid (by rw [HS0.1, HS0.2, HN.out]; unfold signed; rw [if_neg (by decide)]; exact ⟨rfl, rfl⟩)
          clear HS0
          clear A2 A3 A4 hnv
          go_wp2_with fail
          go_ret2
          exact ⟨by rw [HSY.out.1, HSY.out.2]; rfl, rfl⟩
        · have HSY := Lib.hid (A3 hv1)
          clear A2 A3 A4 hnv
          go_wp2_with fail
          go_ret2
          exact ⟨by rw [HSY.out.1, HSY.out.2]; rfl, rfl⟩
end Go.Proofs.YtkijbckpfcfcpabDoor
