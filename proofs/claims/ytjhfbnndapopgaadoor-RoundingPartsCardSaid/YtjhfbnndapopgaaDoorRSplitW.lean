/-
  The walk of package rounding's Split for at most 64 weights.
-/
import Derived.Test.YtjhfbnndapopgaaDoorRSplit
namespace Go.Proofs.YtjhfbnndapopgaaDoor
open Go Go.RowKit Go.Sort WM

set_option maxRecDepth 100000 in
set_option maxHeartbeats 8000000 in
theorem split_small (a A t : Int) (b off cap m L : Nat) (zs ps : List Int) (w : World) (ha : goodB a = true) (hA : max a (-a) = A) (hl : zs.length = m + 1) (h64 : m + 1 ≤ 64) (hw : zs.all weightB = true)
    (ht : sumI zs = t) (ht1 : 1 ≤ t) (hz : ∀ i, i < zs.length → 0 ≤ zs.getD i 0 ∧ zs.getD i 0 ≤ 1000000000000 ∧ zs.getD i 0 ≤ t)
    (hps : psF m (remL A t zs) = ps) (hL : A - sumI (partL A t zs) = L) (hLn : L ≤ m + 1) (hpl : ps.length = m + 1) (hpn : ∀ j, j < m + 1 → ∃ p : Nat, p < m + 1 ∧ ps.getD j 0 = (p : Int))
    (hb : b < w.heap.size) (hc : ∀ i, i < zs.length → w.cell? ⟨b, off + i, none⟩ = some (.int .i64 (zs.getD i 0))) :
    Calls Tryd.prog 31 #[.int .i64 a, .slice (some ⟨b, off, none⟩) zs.length cap] w fun e w' =>
      ∃ g c, e = .returned (.tuple #[.slice (some ⟨g, 0, none⟩) (m + 1) c, .int .i64 0]) ∧ XRow w' g (m + 1) (finL a (bumps (partL A t zs) (ps.take L))) ∧ Below w.heap.size w w' := by
  have SM := fun W hcc => sum_any b off cap zs W (by omega) hcc
  have hsw : sumW zs = t := by unfold sumW; rw [if_neg (by omega), hw, if_pos rfl, ht]
  have GA := fun W => good_any a W
  have hga : -1000000000000 ≤ a ∧ a ≤ 1000000000000 := by simpa [goodB] using ha
  have hAb : 0 ≤ A ∧ A ≤ 1000000000000 := by omega
  have htb : t ≤ 64000000000000 := by
    have := (sumI_bd zs hw).2
    rw [ht] at this
    omega
  have SH := fun W hbw hcc => shares_any A t b off cap zs W hAb ⟨ht1, htb⟩ (by omega) hz hbw hcc
  have hPin : inB 1000000000000 (partL A t zs) := partL_in A t zs hAb ht1 (fun i hi => ⟨(hz i hi).1, (hz i hi).2.2⟩)
  have hPl : (partL A t zs).length = m + 1 := by rw [partL_length, hl]
  have hRl : (remL A t zs).length = m + 1 := by rw [remL_length, hl]
  have hPs := sumI_in 1000000000000 (partL A t zs) (by omega) hPin
  have DS := fun gN oN capN W hbw hcc => desc_any m gN oN capN (remL A t zs) hRl h64 W hbw hcc
  rw [hps] at DS
  have hdl : ∀ k, (zs.take k).length ≤ zs.length := fun k => by rw [List.length_take]; omega
  have htk : zs.take zs.length = zs := List.take_length
  simp only [hsw] at SM
  simp only [ha] at GA
  obtain ⟨P, hP⟩ : ∃ P, partL A t zs = P := ⟨_, rfl⟩
  obtain ⟨R, hR⟩ : ∃ R, remL A t zs = R := ⟨_, rfl⟩
  rw [hP] at hPin hPl hPs hL ⊢
  obtain ⟨F, hF⟩ : ∃ F, finL a (bumps P (ps.take L)) = F := ⟨_, rfl⟩
  rw [hF]
  have HF := Lib.hid hF
  clear hF
  rw [hR] at hRl DS
  have hSR : ∀ x y w', SRel w A t zs zs.length x y w' → ∃ gx cx gy cy, x = .slice (some ⟨gx, 0, none⟩) (m + 1) cx ∧ y = .slice (some ⟨gy, 0, none⟩) (m + 1) cy ∧ gx ≠ gy ∧ w.heap.size ≤ gx ∧ gx < w'.heap.size ∧ gy < w'.heap.size ∧ XRow w' gx (m + 1) P ∧ XRow w' gy (m + 1) R ∧ Below w.heap.size w w' := by
    intro x y w' ⟨o1, o2, ap, bl⟩
    rw [htk, hP, hl] at o1
    rw [htk, hR, hl] at o2
    obtain ⟨gx, cx, rfl, k1, k2, _, k4⟩ := own_row o1 (by omega)
    obtain ⟨gy, cy, rfl, _, j2, _, j4⟩ := own_row o2 (by omega)
    refine ⟨gx, cx, gy, cy, rfl, rfl, ?_, k1, k2, j2, k4, j4, bl⟩
    rcases ap with e | e
    · simp [Value.ownBlock] at e
    · intro c; apply e; simp [Value.ownBlock, c]
  simp only [hRl] at DS
  have SM := Lib.hid SM; have GA := Lib.hid GA; have SH := Lib.hid SH; have DS := Lib.hid DS; have HSR := Lib.hid hSR
  have HC := Lib.hid hc; have HL := Lib.hid hL; have HPI := Lib.hid hPin; have HPS := Lib.hid hPs; have HPN := Lib.hid hpn; have HPL := Lib.hid hpl; have HPPL := Lib.hid hPl
  have hlz : (zs.length : Int) = (m : Int) + 1 := by omega
  have hnz : ((t : Int) == 0) = false := by rw [beq_eq_false_iff_ne]; omega
  have hn0 : ¬ t = 0 := by omega
  have hwn : wrap64 (-a) = -a := by unfold wrap64; omega
  obtain ⟨ga1, ga2⟩ := hga
  obtain ⟨A0, A1⟩ := hAb
  have HLN := Lib.hid hl
  have hLz : (L : Int) ≤ (m : Int) + 1 := by omega
  have hmz : (m : Int) + 1 ≤ 64 := by omega
  clear hl hlz hPl hRl hpl
  clear hsw hz hw hP hR hps htk hdl hSR hc hL hPin hPs hpn ht
  go_enter Tryd.func31, Tryd.ntmps31
  go_wp2_with fail
  refine (SM.out _ HC.out).mono ?_
  rintro e w1 ⟨rfl, rfl⟩
  go_wp2_with fail
  refine (GA.out _).mono ?_
  rintro e w1 ⟨rfl, rfl⟩
  go_wp2_with fail
  refine (SH.out _ hb HC.out).mono ?_
  rintro e w1 ⟨x, y, rfl, hS⟩
  obtain ⟨gx, cx, gy, cy, rfl, rfl, hxy, hgx, hgx1, hgy1, XP, YR, B1⟩ := HSR.out _ _ _ hS
  have HXP := Lib.hid XP; have HYR := Lib.hid YR; have HB1 := Lib.hid B1
  clear hS XP YR B1
  go_wp2_with fail
  go_loop [7, 37] (fun l i => ∃ k : Nat, k ≤ m + 1 ∧ i = .int .i64 k ∧ l = .int .i64 (A - sumI (P.take k))) (fun _ i => m + 1 - (RowKit.intOf i).toNat)
  case atStart => exact ⟨0, by omega, rfl, by simp [sumI]⟩
  case round =>
    obtain ⟨k, hk, rfl, rfl⟩ := hrel
    obtain ⟨s0, s1⟩ := HPS.out k
    obtain ⟨S, hS⟩ : ∃ S, sumI (P.take k) = S := ⟨_, rfl⟩
    rw [hS] at s0 s1
    simp only [hS]
    have HS := Lib.hid hS
    have s2 : S ≤ 64000000000000 := by omega
    clear hS s1
    by_cases hlt : k < m + 1
    · obtain ⟨c1, _⟩ := HXP.out.2 k hlt
      obtain ⟨p0, p1⟩ := HPI.out k
      obtain ⟨p, hp⟩ : ∃ p, P.getD k 0 = p := ⟨_, rfl⟩
      rw [hp] at c1 p0 p1
      have HP := Lib.hid hp
      have hkz : (k : Int) < (m : Int) + 1 := by omega
      clear hp
      go_wp2_with fail
      go_round
      case rel => exact ⟨k + 1, by omega, by go_num, by rw [take_snoc_i P k (by rw [HPPL.out]; exact hlt), sumI_snoc, HS.out, HP.out]; congr 1; omega⟩
      case measure => simp [RowKit.intOf]; omega
    · have he : k = m + 1 := by omega
      subst he
      have hS2 := HS.out
      rw [List.take_of_length_le (by rw [HPPL.out]; omega)] at hS2
      have hLS : A - S = (L : Int) := by rw [← hS2]; exact HL.out
      rw [hLS]
      clear hS2 hLS s0 s2
      go_wp2_with fail
      refine (DS.out gy 0 cy _ hgy1 (fun j hj => by rw [Nat.zero_add]; exact (HYR.out.2 j hj).1)).mono ?_
      rintro e w2 ⟨g2, rfl, hg2, c2, q2⟩
      have BR : BRel w gx g2 (m + 1) P ps 0 w2 := ⟨HXP.out.below hgx1 q2, c2, btr HB1.out q2⟩
      have HBR := Lib.hid BR
      have hgg : gx ≠ g2 := by omega
      clear c2 q2 BR
      go_wp2_with fail
      go_loopw [50] (fun i wr => ∃ k : Nat, k ≤ L ∧ i = .int .i64 k ∧ BRel w gx g2 (m + 1) P ps k wr) (fun i _ => L - (RowKit.intOf i).toNat)
      case atStart => exact ⟨0, by omega, rfl, HBR.out⟩
      case round =>
        obtain ⟨k, hk, rfl, hB⟩ := hrel
        have HB := Lib.hid hB
        have hin := bumps_in HPI.out (ps.take k)
        have hkl : (ps.take k).length ≤ 64 := by rw [List.length_take]; omega
        by_cases hlt : k < L
        · obtain ⟨p, hpm, hp⟩ := HPN.out k (by omega)
          have c1 := hB.2.1 k (by omega)
          rw [hp] at c1
          obtain ⟨c3, f3⟩ := hB.1.2 p hpm
          obtain ⟨v0, v1⟩ := hin p
          obtain ⟨v, hv⟩ : ∃ v, (bumps P (ps.take k)).getD p 0 = v := ⟨_, rfl⟩
          rw [hv] at c3 v0 v1
          have HV := Lib.hid hv
          have HPP := Lib.hid hp
          have v2 : v ≤ 2000000000000 := by omega
          have hkz : (k : Int) < (L : Int) := by omega
          have hpz : (p : Int) < (m : Int) + 1 := by omega
          clear hv hp hin hB v1 hkl
          go_wp2_with fail
          go_roundw
          case rel =>
            refine ⟨k + 1, by omega, by go_num, ?_⟩
            have := HB.out.step hgg hgx (by rw [HPL.out]; omega) HPP.out hpm
            rw [HV.out] at this
            exact this
          case measure => simp [RowKit.intOf]; omega
        · have he : k = L := by omega
          subst he
          obtain ⟨Q, hQ⟩ : ∃ Q, bumps P (ps.take k) = Q := ⟨_, rfl⟩
          have XQ := hB.1
          have BQ := hB.2.2
          rw [hQ] at XQ hin
          have HFQ : Hid (finL a Q = F) := Lib.hid (by rw [← hQ]; exact HF.out)
          have HXQ := Lib.hid XQ; have HBQ := Lib.hid BQ
          have hin2 : inB 2000000000000 Q := fun j => by have := hin j; omega
          have HIN := Lib.hid hin2
          clear hQ hin hin2 hB HB XQ BQ hkl HBR
          by_cases hneg : a < 0
          · have HFN : Hid (F = Q.map (fun x => -x)) := Lib.hid (by rw [← HFQ.out]; unfold finL; rw [if_pos hneg])
            go_wp2_with fail
            go_loopw [65] (fun i wr => ∃ k : Nat, k ≤ m + 1 ∧ i = .int .i64 k ∧ XRow wr gx (m + 1) (negK k Q) ∧ Below w.heap.size w wr) (fun i _ => m + 1 - (RowKit.intOf i).toNat)
            case atStart => exact ⟨0, by omega, rfl, HXQ.out, HBQ.out⟩
            case round =>
              obtain ⟨j, hj, rfl, hX, hBl⟩ := hrel
              have HX := Lib.hid hX; have HBl := Lib.hid hBl
              by_cases hlt3 : j < m + 1
              · obtain ⟨c3, f3⟩ := hX.2 j hlt3
                have hjl : j < Q.length := by rw [HXQ.out.1]; exact hlt3
                rw [negK_at j Q hjl] at c3
                obtain ⟨v0, v1⟩ := HIN.out j
                obtain ⟨v, hv⟩ : ∃ v, Q.getD j 0 = v := ⟨_, rfl⟩
                rw [hv] at c3 v0 v1
                have HV := Lib.hid hv
                have hjz : (j : Int) < (m : Int) + 1 := by omega
                have hwv : wrap64 (-v) = -v := by unfold wrap64; omega
                clear hv hX hBl
                go_wp2_with fail
                go_roundw
                case rel =>
                  refine ⟨j + 1, by omega, by go_num, ?_, HBl.out.setCell hgx _⟩
                  have := HX.out.set hlt3 (-v)
                  have e := negK_step j Q hjl
                  rw [HV.out] at e
                  rw [e] at this
                  exact this
                case measure => simp [RowKit.intOf]; omega
              · have he : j = m + 1 := by omega
                subst he
                have hq := HXQ.out.1
                have hfx : XRow wr gx (m + 1) (Q.map (fun x => -x)) := by
                  have := hX
                  rw [← hq] at this ⊢
                  rw [negK_all] at this
                  exact this
                clear hX hq
                go_wp2_with fail
                go_ret2
                exact ⟨_, _, rfl, by rw [HFN.out]; exact hfx, hBl⟩
          · have HFN : Hid (F = Q) := Lib.hid (by rw [← HFQ.out]; unfold finL; rw [if_neg hneg])
            go_wp2_with fail
            go_ret2
            have hfin : XRow wr gx (m + 1) F := by rw [HFN.out]; exact HXQ.out
            first | exact ⟨_, _, rfl, hfin, HBQ.out⟩ | exact ⟨_, ⟨_, rfl⟩, hfin, HBQ.out⟩ | exact ⟨_, hfin, HBQ.out⟩
end Go.Proofs.YtjhfbnndapopgaaDoor
