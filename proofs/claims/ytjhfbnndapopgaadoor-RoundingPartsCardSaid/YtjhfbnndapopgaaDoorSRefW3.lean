/-
  The walk of the document's own Split for weights that are accepted.
-/
import Derived.Test.YtjhfbnndapopgaaDoorSRef
import Derived.Test.YtjhfbnndapopgaaDoorRShares
import Derived.Test.YtjhfbnndapopgaaDoorRefM
import Derived.Deep.RegionWith
import Derived.Deep.DeepCutAuto
namespace Go.Proofs.YtjhfbnndapopgaaDoor
open Go Go.RowKit Go.Sort WM

theorem XRow.far {w : World} {g n g2 p : Nat} {l : List Int} (h : XRow w g n l) (hg : g ≠ g2) (v : Value) : XRow (w.setCell ⟨g2, p, none⟩ v) g n l :=
  ⟨h.1, fun j hj => ⟨by rw [World.cell?_setCell_other _ _ _ _ (by intro c; injection c with c _ _; exact hg c.symm)]; exact (h.2 j hj).1, by rw [World.frozen?_setCell]; exact (h.2 j hj).2⟩⟩
/-- The choosing loop at its j-th head. -/
def CRel (w : World) (gx gy n : Nat) (P R ps : List Int) (j : Nat) (wr : World) : Prop :=
  XRow wr gx n (bumps P (ps.take j)) ∧ XRow wr gy n (cutL R (ps.take j)) ∧ Below w.heap.size w wr
theorem CRel.drewN {w wr : World} {gx gy n j : Nat} {P R ps : List Int} (h : CRel w gx gy n P R ps j wr) (q : Nat) : CRel w gx gy n P R ps j (wr.drewN q) := ⟨h.1, h.2.1, bdn h.2.2 q⟩
theorem CRel.step {w wr : World} {gx gy n j p : Nat} {P R ps : List Int} (h : CRel w gx gy n P R ps j wr) (hxy : gx ≠ gy) (hx : w.heap.size ≤ gx) (hy : w.heap.size ≤ gy) (hj : j < ps.length) (hp : ps.getD j 0 = (p : Int)) (hpn : p < n) :
    CRel w gx gy n P R ps (j + 1) ((wr.setCell ⟨gx, p, none⟩ (.int .i64 ((bumps P (ps.take j)).getD p 0 + 1))).setCell ⟨gy, p, none⟩ (.int .i64 (-1))) := by
  obtain ⟨h1, h2, h3⟩ := h
  refine ⟨?_, ?_, (h3.setCell hx _).setCell hy _⟩
  · rw [take_snoc_i ps j hj, bumps_snoc, hp]
    unfold bumpL
    rw [Int.toNat_natCast]
    exact (h1.set hpn _).far hxy _
  · rw [take_snoc_i ps j hj, cutL_snoc, hp, Int.toNat_natCast]
    exact (h2.far (Ne.symm hxy) _).set hpn _

theorem srel_start (w : World) (A t : Int) (zs : List Int) (q : Nat) :
    SRel w A t zs 0 (.slice (some ⟨w.heap.size, 0, none⟩) 0 0) (.slice (some ⟨w.heap.size + 1, 0, none⟩) 0 0) (((w.drewN q).alloc (Obj.cells #[] 3)).alloc (Obj.cells #[] 3)) := by
  refine ⟨⟨rfl, Or.inr ⟨w.heap.size, 0, #[], rfl, Nat.le_refl _, ?_, Nat.le_refl _, by decide, rfl, rfl⟩⟩, ⟨rfl, Or.inr ⟨w.heap.size + 1, 0, #[], rfl, by omega, ?_, Nat.le_refl _, by decide, rfl, rfl⟩⟩, Or.inr ?_, bal (bal (bdn (bref w) q) _) _⟩
  · show ((w.heap.push (Obj.cells #[] 3)).push (Obj.cells #[] 3))[w.heap.size]? = _
    rw [Array.getElem?_push_lt (by simp), Array.getElem_push_eq]
  · show ((w.heap.push (Obj.cells #[] 3)).push (Obj.cells #[] 3))[w.heap.size + 1]? = _
    rw [Array.getElem?_push, if_pos (by simp)]
  · simp [Value.ownBlock]

set_option maxRecDepth 100000 in
set_option maxHeartbeats 32000000 in
theorem rsplit_small (a A t : Int) (b off cap m L : Nat) (zs : List Int) (w : World) (ha : goodB a = true) (hA : max a (-a) = A) (hl : zs.length = m + 1) (h64 : m + 1 ≤ 64) (hw : zs.all weightB = true)
    (ht : sumI zs = t) (ht1 : 1 ≤ t) (hz : ∀ i, i < zs.length → 0 ≤ zs.getD i 0 ∧ zs.getD i 0 ≤ 1000000000000 ∧ zs.getD i 0 ≤ t)
    (hL : A - sumI (partL A t zs) = L) (hLn : L ≤ m + 1)
    (hb : b < w.heap.size) (hc : ∀ i, i < zs.length → w.cell? ⟨b, off + i, none⟩ = some (.int .i64 (zs.getD i 0))) :
    Calls Tryd.prog 32 #[.int .i64 a, .slice (some ⟨b, off, none⟩) zs.length cap] w fun e w' =>
      ∃ g c, e = .returned (.tuple #[.slice (some ⟨g, 0, none⟩) (m + 1) c, .int .i64 0]) ∧ XRow w' g (m + 1) (finL a (bumps (partL A t zs) ((psF m (remL A t zs)).take L))) ∧ Below w.heap.size w w' := by
  have hsw : sumW zs = t := by unfold sumW; rw [if_neg (by omega), hw, if_pos rfl, ht]
  have TT := total_any b off cap zs w (by omega) hc
  have TT : Hid (Calls Tryd.prog 33 #[.slice (some ⟨b, off, none⟩) zs.length cap] w fun e w' => e = .returned (.tuple #[.int .i64 t, .bool true]) ∧ ∃ q, w' = w.drewN q) :=
    Lib.hid (TT.mono fun e w' ⟨⟨s, he, hs⟩, hq⟩ => ⟨by rw [he, hs (by omega), hsw, decide_eq_true (show 0 < t by omega)], hq⟩)
  have GA := fun W => rgood_any a W
  simp only [ha] at GA
  have GA := Lib.hid GA
  have hga : -1000000000000 ≤ a ∧ a ≤ 1000000000000 := by simpa [goodB] using ha
  obtain ⟨ga1, ga2⟩ := hga
  have hwn : IntKind.i64.wrap (-a) = -a := by rw [IntKind.wrap_i64]; omega
  have HC := Lib.hid hc
  obtain ⟨i0, hi, hz0, hz1, hz2⟩ := info_parts info3
  have htb : t ≤ 64000000000000 := by
    have := (sumI_bd zs hw).2
    rw [ht] at this
    omega
  have hPin : inB 1000000000000 (partL A t zs) := partL_in A t zs (by omega) ht1 (fun i hi => ⟨(hz i hi).1, (hz i hi).2.2⟩)
  have hPl : (partL A t zs).length = zs.length := partL_length A t zs
  have hRl : (remL A t zs).length = zs.length := remL_length A t zs
  have hPs := sumI_in 1000000000000 (partL A t zs) (by omega) hPin
  have hSR : ∀ x y w', SRel w A t zs zs.length x y w' → ∃ gx cx gy cy, x = .slice (some ⟨gx, 0, none⟩) zs.length cx ∧ y = .slice (some ⟨gy, 0, none⟩) zs.length cy ∧ gx ≠ gy ∧ w.heap.size ≤ gx ∧ w.heap.size ≤ gy ∧ gx < w'.heap.size ∧ gy < w'.heap.size ∧ XRow w' gx zs.length (partL A t zs) ∧ XRow w' gy zs.length (remL A t zs) ∧ Below w.heap.size w w' := by
    intro x y w' ⟨o1, o2, ap, bl⟩
    rw [List.take_length] at o1 o2
    obtain ⟨gx, cx, rfl, k1, k2, _, k4⟩ := own_row o1 (by omega)
    obtain ⟨gy, cy, rfl, j1, j2, _, j4⟩ := own_row o2 (by omega)
    refine ⟨gx, cx, gy, cy, rfl, rfl, ?_, k1, j1, k2, j2, k4, j4, bl⟩
    rcases ap with e | e
    · simp [Value.ownBlock] at e
    · intro c; apply e; simp [Value.ownBlock, c]
  have hAb : 0 ≤ A ∧ A ≤ 1000000000000 := by omega
  have hneg : a < 0 → -a = A := fun h => by omega
  have hpos : ¬ a < 0 → a = A := fun h => by omega
  have HZ := Lib.hid hz; have HLN := Lib.hid hLn; have HNEG := Lib.hid hneg; have HPOS := Lib.hid hpos; have HZL := Lib.hid hl
  obtain ⟨n, hn⟩ : ∃ n, zs.length = n := ⟨_, rfl⟩
  have HNN := Lib.hid hn
  obtain ⟨P, hP⟩ : ∃ P, partL A t zs = P := ⟨_, rfl⟩
  obtain ⟨RM, hRM⟩ : ∃ P, remL A t zs = P := ⟨_, rfl⟩
  rw [hn] at TT ⊢
  rw [hn, hP] at hPl; rw [hn, hRM] at hRl; rw [hP] at hPin hPs hL ⊢; rw [hRM] at ⊢
  simp only [hn, hP, hRM] at hSR
  obtain ⟨A0, A1⟩ := hAb
  have hIa : I64 A := by unfold I64; omega
  have hIt : I64 t := by unfold I64; omega
  have HL := Lib.hid hL; have HPL := Lib.hid hPl; have HRL := Lib.hid hRl; have HPI := Lib.hid hPin; have HPS := Lib.hid hPs; have HSR := Lib.hid hSR; have HPD := Lib.hid hP; have HRD := Lib.hid hRM
  have hn64 : n ≤ 64 := by omega
  have HN1 : Hid (n = m + 1) := Lib.hid (by omega)
  clear h64
  clear hPl hRl hPin hPs hSR hP hRM
  clear hc hL hz hLn hneg hpos hA hsw hw ht hl hn ha
  by_cases hs : a < 0
  · go_enter Tryd.func32, Tryd.ntmps32
    go_wp2_with fail
    refine TT.out.mono ?_
    rintro e w1 ⟨rfl, q, rfl⟩
    go_wp2_with fail
    refine (GA.out _).mono ?_
    rintro e w1 ⟨rfl, rfl⟩
    go_wp2_with fail
    rw [HNEG.out hs]
    have HST : Hid (SRel w A t zs 0 (.slice (some ⟨w.heap.size, 0, none⟩) 0 0) (.slice (some ⟨w.heap.size + 1, 0, none⟩) 0 0) (((w.drewN q).alloc (Obj.cells #[] 3)).alloc (Obj.cells #[] 3))) := Lib.hid (srel_start w A t zs q)
    go_loopw [8, 10, 11, 12] (fun l x y i wr => ∃ k : Nat, k ≤ n ∧ i = .int .i64 k ∧ l = .int .i64 (A - sumI (P.take k)) ∧ SRel w A t zs k x y wr) (fun _ _ _ i _ => n - (RowKit.intOf i).toNat)
    case atStart => exact ⟨0, by omega, rfl, by simp [sumI], HST.out⟩
    case round =>
      obtain ⟨k, hk, rfl, rfl, hR⟩ := hrel
      obtain ⟨s0, s1⟩ := HPS.out k
      obtain ⟨S, hS⟩ : ∃ S, sumI (P.take k) = S := ⟨_, rfl⟩
      rw [hS] at s0 s1
      simp only [hS]
      have HS := Lib.hid hS
      have s2 : S ≤ 64000000000000 := by omega
      clear hS s1
      by_cases hlt : k < n
      · have hcell := ((hR.2.2.2).cell (p := ⟨b, off + k, none⟩) hb).trans (HC.out k (by rw [HNN.out]; exact hlt))
        have hzk := HZ.out k (by rw [HNN.out]; exact hlt)
        have hPk : P.getD k 0 = A * zs.getD k 0 / t := by rw [← HPD.out]; simp [partL, List.getD, HNN.out, hlt]
        obtain ⟨z, hzz⟩ : ∃ z, zs.getD k 0 = z := ⟨_, rfl⟩
        rw [hzz] at hcell hzk hPk
        have hkz : (k : Int) < (n : Int) := by omega
        have hIz : I64 z := by unfold I64; omega
        have hin : inW (A * z) = true := prod_in hIa hIz
        have M := Lib.hid (fun W => rmul_any A z hIa hIz W)
        have D := fun W => rdiv_any (wH (A * z)) (wL (A * z)) t (wH_I64 _) (wL_U64 _) hIt ht1 W
        simp only [val_w hin] at D
        have p0 : 0 ≤ A * z := Int.mul_nonneg A0 hzk.1
        have p1 : A * z ≤ A * t := Int.mul_le_mul_of_nonneg_left hzk.2.2 A0
        obtain ⟨PP, hP⟩ : ∃ PP, A * z = PP := ⟨_, rfl⟩
        rw [hP] at p0 p1
        have hq0 : 0 ≤ PP / t := Int.ediv_nonneg p0 (by omega)
        have hq1 : PP / t ≤ A := by
          have := Int.ediv_le_ediv (c := t) (by omega) p1
          rwa [Int.mul_ediv_cancel _ (by omega)] at this
        obtain ⟨Q, hQ⟩ : ∃ Q, PP / t = Q := ⟨_, rfl⟩
        obtain ⟨R, hRR⟩ : ∃ R, PP % t = R := ⟨_, rfl⟩
        rw [hQ] at hq0 hq1
        have hinq : inW Q = true := by rw [inW_iff]; omega
        simp only [hP] at M D
        simp only [hQ, hRR] at D
        have hiq : isInt Q = true := by unfold isInt; simp; omega
        have htq : toInt Q = Q := by unfold toInt; rw [hiq, if_pos rfl]
        have I := fun W => rint_any (wH Q) (wL Q) (wH_I64 _) (wL_U64 _) W
        simp only [val_w hinq, hiq, htq] at I
        have I := Lib.hid I; have D := Lib.hid D
        have HR := Lib.hid hR
        have hEQ : Hid (A * zs.getD k 0 / t = Q ∧ A * zs.getD k 0 % t = R) := Lib.hid (by rw [hzz, hP]; exact ⟨hQ, hRR⟩)
        have HNX : Hid (A - sumI (P.take (k + 1)) = A - S - Q) := Lib.hid (by rw [take_snoc_i P k (by rw [HPL.out]; exact hlt), sumI_snoc, HS.out, hPk, hP, hQ]; omega)
        have sW := hR.2.2.2.size
        clear hP hQ hRR hR hinq p0 p1 hin hzz hiq htq hPk
        go_wp2_with fail
        refine (M.out _).mono ?_
        rintro e w1 ⟨rfl, q1⟩
        go_wp2_with fail
        refine (D.out _).mono ?_
        rintro e w2 ⟨rfl, q2⟩
        go_wp2_with fail
        refine (I.out _).mono ?_
        rintro e w3 ⟨rfl, q3⟩
        have B3 : Below wr.heap.size wr w3 := btr (bal (btr q1 q2) _) q3
        have s3 := B3.size
        clear q1 q2 q3
        have hown := (own_below HR.out.1 B3).alloc (.cells #[.int .i64 Q] 3)
        clear M D I
        go_wp2_with (first | (at_builtin; refine wpList_append_own_at _ rfl (.tmp 64) (.tmp 66) 44 rfl w.heap.size 3 i0 (.int .i64 0) 1 8 Tryd.underlying44 hi hz0 hz1 hz2 rfl (by decide) _ _ _ rfl hown ⟨w3.heap.size, 0, none⟩ 1 1 [.int .i64 Q] rfl rfl (news1 w3 Q) (one1 Q) (by unfold maxLen; omega) (by omega) (by simp; omega) ?_; intro x' w4 ox gx _ ax; have hown2 := HR.out.mid B3 gx (o2 := .cells #[.int .i64 R] 3); have s4 := gx.size) | (at_builtin; refine wpList_append_own_at _ rfl (.tmp 68) (.tmp 70) 44 rfl w.heap.size 3 i0 (.int .i64 0) 1 8 Tryd.underlying44 hi hz0 hz1 hz2 rfl (by decide) _ _ _ rfl hown2 ⟨w4.heap.size, 0, none⟩ 1 1 [.int .i64 R] rfl rfl (news1 w4 R) (one1 R) (by unfold maxLen; omega) (by omega) (by simp at s4 ⊢; omega) ?_; intro y' w5 oy gy _ ay))
        go_roundw
        case rel => exact ⟨k + 1, by omega, by go_num, by rw [HNX.out], HR.out.step (by rw [HNN.out]; exact hlt) B3 (by rw [hEQ.out.1]; exact ox) gx ax (by rw [hEQ.out.2]; exact oy) gy ay⟩
        case measure => simp [RowKit.intOf]; omega
      · have he : k = n := by omega
        subst he
        have hS2 := HS.out
        rw [List.take_of_length_le (by rw [HPL.out]; exact Nat.le_refl _)] at hS2
        have hLS : A - S = (L : Int) := by rw [← hS2]; exact HL.out
        rw [hLS]
        obtain ⟨gx, cx, gy, cy, rfl, rfl, hxy, hgx, hgy, hgx1, hgy1, XP, YR, B1⟩ := HSR.out _ _ _ hR
        have HXP := Lib.hid XP; have HYR := Lib.hid YR; have HB1 := Lib.hid B1
        clear hS2 hLS s0 s2 hR XP YR B1
        obtain ⟨PS, hPS⟩ : ∃ PS, psF m RM = PS := ⟨_, rfl⟩
        have HPSL : Hid (PS.length = k) := Lib.hid (by rw [← hPS, psF_len]; exact HN1.out.symm)
        have HTOP : Hid (∀ j, j < k → ∃ p : Nat, p < k ∧ PS.getD j 0 = (p : Int) ∧ Top (cutL RM (PS.take j)) k p) := Lib.hid (fun j hj => by
          have hm := HN1.out
          refine ⟨plF m RM j, by rw [hm]; exact ((plF_sd m RM).own j (by omega) (by omega)).2, by rw [← hPS]; exact psF_at m RM j (by omega), ?_⟩
          rw [← hPS, hm]
          exact top_cut (by rw [HRL.out]; exact hm) (fun i hi => by
            rw [← HRD.out]
            have hi2 : i < zs.length := by rw [HNN.out]; omega
            rw [show (remL A t zs).getD i 0 = A * zs.getD i 0 % t by simp [remL, List.getD, hi2]]
            exact Int.emod_nonneg _ (by omega)) j (by omega))
        have HLK : Hid (L ≤ k) := Lib.hid (by rw [HN1.out]; exact HLN.out)
        have HCR : Hid (CRel w gx gy k P RM PS 0 wr) := Lib.hid ⟨HXP.out, HYR.out, HB1.out⟩
        have HRB : Hid (∀ j i : Nat, -1 ≤ (cutL RM (PS.take j)).getD i 0 ∧ (cutL RM (PS.take j)).getD i 0 ≤ t) := Lib.hid (fun j => cutL_low t _ RM (fun i => by
          by_cases hi : i < zs.length
          · rw [← HRD.out, show (remL A t zs).getD i 0 = A * zs.getD i 0 % t by simp [remL, List.getD, hi]]
            have := Int.emod_nonneg (A * zs.getD i 0) (show t ≠ 0 by omega)
            have := Int.emod_lt_of_pos (A * zs.getD i 0) (show 0 < t by omega)
            omega
          · have hi2 : RM.length ≤ i := by rw [HRL.out, ← HNN.out]; omega
            rw [show RM.getD i 0 = 0 by simp [List.getD, hi2]]
            omega) (by omega))
        have hLk : (L : Int) ≤ 64 := by have := HLK.out; omega
        have HPSD := Lib.hid hPS
        have k1 : 1 ≤ k := by have := HN1.out; omega
        clear hPS hlt hk
        go_wp2_with fail
        go_loopw [8] (fun l wr => ∃ j : Nat, j ≤ L ∧ l = .int .i64 ((L : Int) - j) ∧ CRel w gx gy k P RM PS j wr) (fun l _ => (RowKit.intOf l).toNat)
        case atStart => exact ⟨0, by omega, by simp, HCR.out⟩
        case round =>
          obtain ⟨j, hj, rfl, hC⟩ := hrel
          obtain ⟨wo, rfl⟩ : ∃ wo : World, wo = wr := ⟨_, rfl⟩
          by_cases hjl : j < L
          · obtain ⟨p, hp, hpe, hT⟩ := HTOP.out j (by have := HLK.out; omega)
            have hjz : (j : Int) < (L : Int) := by omega
            have hC1 := hC.1; have hC2 := hC.2.1
            have HCC := Lib.hid hC
            have HPE := Lib.hid hpe; have HTT := Lib.hid hT
            have hrb := HRB.out j
            obtain ⟨r, hr⟩ : ∃ r, cutL RM (PS.take j) = r := ⟨_, rfl⟩
            rw [hr] at hC2 hrb
            have HRR := Lib.hid hr
            have HC2 := Lib.hid hC2; have HB := Lib.hid hrb
            obtain ⟨cp, cf⟩ := hC1.2 p hp
            have bb := bumps_in HPI.out (PS.take j)
            have bp := bb p
            have blen : (PS.take j).length ≤ 64 := by rw [List.length_take]; omega
            obtain ⟨V, hV⟩ : ∃ V, (bumps P (PS.take j)).getD p 0 = V := ⟨_, rfl⟩
            rw [hV] at cp bp
            obtain ⟨v0, v1⟩ := bp
            have v2 : V ≤ 1000000000064 := by omega
            have HV := Lib.hid hV
            obtain ⟨yp, yf⟩ := hC2.2 p hp
            have YP := Lib.hid yp; have YF := Lib.hid yf; have CP := Lib.hid cp; have CF := Lib.hid cf
            clear hC hC1 hC2 hpe hT hr hrb cp cf bb v1 blen hV yp yf
            go_wp2_with fail
            go_loopw [18, 19] (fun v i wx => ∃ z : Nat, wx = wo.drewN z ∧ ∃ c q : Nat, i = .int .i64 q ∧ v = .int .i64 c ∧ q ≤ k ∧ Top r q c) (fun _ i _ => k - (RowKit.intOf i).toNat)
            case atStart => exact ⟨0, rfl, 0, 1, rfl, rfl, k1, Top.one r⟩
            case round =>
              obtain ⟨zz, rfl, c, q2, rfl, rfl, hq, hTc⟩ := hrel
              by_cases hqk : q2 < k
              · have hqz : (q2 : Int) < (k : Int) := by omega
                have hck := hTc.1
                obtain ⟨x1, _⟩ := HC2.out.2 q2 hqk
                obtain ⟨x2, _⟩ := HC2.out.2 c (by omega)
                have HTc := Lib.hid hTc
                obtain ⟨u1, hu1⟩ : ∃ u, r.getD q2 0 = u := ⟨_, rfl⟩
                obtain ⟨u2, hu2⟩ : ∃ u, r.getD c 0 = u := ⟨_, rfl⟩
                rw [hu1] at x1; rw [hu2] at x2
                have HU1 := Lib.hid hu1; have HU2 := Lib.hid hu2
                have hcz : (c : Int) < (k : Int) := by omega
                clear hTc hu1 hu2
                by_cases hgt : u2 < u1
                · go_wp2_with fail
                  go_quiet (fail)
                  go_wp2_with fail
                  go_roundw
                  case rel => exact ⟨_, rfl, q2, q2 + 1, by go_num, rfl, by omega, HTc.out.gt (by rw [HU1.out, HU2.out]; exact hgt)⟩
                  case measure => simp [RowKit.intOf]; omega
                · go_wp2_with fail
                  go_quiet (fail)
                  go_wp2_with fail
                  go_roundw
                  case rel => exact ⟨_, rfl, c, q2 + 1, by go_num, rfl, by omega, HTc.out.le (by rw [HU1.out, HU2.out]; omega)⟩
                  case measure => simp [RowKit.intOf]; omega
              · have he : q2 = k := by omega
                subst he
                obtain rfl : c = p := hTc.uniq (by rw [← HRR.out]; exact HTT.out)
                have cp := CP.out; have cf := CF.out; have yp := YP.out; have yf := YF.out
                have hcz : (c : Int) < (q2 : Int) := by omega
                clear hTc
                go_wp2_with fail
                go_roundw
                case rel => exact ⟨j + 1, by omega, by go_num, by have := (HCC.out.drewN zz).step hxy hgx hgy (by rw [HPSL.out]; have := HLK.out; omega) HPE.out hp; rw [HV.out] at this; exact this⟩
                case measure => simp [RowKit.intOf]; omega
          · have he : j = L := by omega
            subst he
            obtain ⟨G1, G2, G3⟩ := hC
            obtain ⟨F, hF⟩ : ∃ F, bumps P (PS.take j) = F := ⟨_, rfl⟩
            rw [hF] at G1
            have HFD := Lib.hid hF; have HG1 := Lib.hid G1; have HG3 := Lib.hid G3
            have hinF : inB (1000000000000 + 64) F := by
              rw [← hF]
              have bb := bumps_in HPI.out (PS.take j)
              have blen : (PS.take j).length ≤ 64 := by rw [List.length_take]; omega
              intro i
              have := bb i
              omega
            have HIN := Lib.hid hinF
            have hFl := G1.1
            have HFL := Lib.hid hFl
            clear G1 G2 G3 hF hinF hFl
            go_wp2_with fail
            go_loopw [20] (fun i wr => ∃ q : Nat, q ≤ k ∧ i = .int .i64 q ∧ XRow wr gx k (negK q F) ∧ Below w.heap.size w wr) (fun i _ => k - (RowKit.intOf i).toNat)
            case atStart => exact ⟨0, by omega, rfl, HG1.out, HG3.out⟩
            case round =>
              obtain ⟨q2, hq, rfl, hX, hB⟩ := hrel
              by_cases hqk : q2 < k
              · have hqz : (q2 : Int) < (k : Int) := by omega
                obtain ⟨x1, x2⟩ := hX.2 q2 hqk
                have hat := negK_at q2 F (by rw [HFL.out]; exact hqk)
                rw [hat] at x1
                obtain ⟨u1, u2⟩ := HIN.out q2
                have hst := negK_step q2 F (by rw [HFL.out]; exact hqk)
                obtain ⟨u, hu⟩ : ∃ u, F.getD q2 0 = u := ⟨_, rfl⟩
                rw [hu] at x1 u1 u2 hst
                have HSTT := Lib.hid hst; have HX := Lib.hid hX
                clear hat hst hu hX
                go_wp2_with fail
                go_roundw
                case rel => exact ⟨q2 + 1, by omega, by go_num, by rw [← HSTT.out]; exact HX.out.set hqk _, hB.setCell hgx _⟩
                case measure => simp [RowKit.intOf]; omega
              · have he : q2 = k := by omega
                subst he
                have hfin : negK q2 F = finL a (bumps P ((psF m RM).take j)) := by rw [HPSD.out, HFD.out, ← HFL.out, negK_all]; unfold finL; rw [if_pos hs]
                rw [hfin] at hX
                have HX := Lib.hid hX
                clear hX hfin
                go_wp2_with fail
                go_ret2
                exact ⟨gx, cx, by rw [HN1.out]; rfl, by rw [← HN1.out]; exact HX.out, hB⟩
  · have e := HPOS.out hs
    subst e
    go_enter Tryd.func32, Tryd.ntmps32
    go_wp2_with fail
    refine TT.out.mono ?_
    rintro e w1 ⟨rfl, q, rfl⟩
    go_wp2_with fail
    refine (GA.out _).mono ?_
    rintro e w1 ⟨rfl, rfl⟩
    go_wp2_with fail
    have HST : Hid (SRel w a t zs 0 (.slice (some ⟨w.heap.size, 0, none⟩) 0 0) (.slice (some ⟨w.heap.size + 1, 0, none⟩) 0 0) (((w.drewN q).alloc (Obj.cells #[] 3)).alloc (Obj.cells #[] 3))) := Lib.hid (srel_start w a t zs q)
    go_loopw [8, 10, 11, 12] (fun l x y i wr => ∃ k : Nat, k ≤ n ∧ i = .int .i64 k ∧ l = .int .i64 (a - sumI (P.take k)) ∧ SRel w a t zs k x y wr) (fun _ _ _ i _ => n - (RowKit.intOf i).toNat)
    case atStart => exact ⟨0, by omega, rfl, by simp [sumI], HST.out⟩
    case round =>
      obtain ⟨k, hk, rfl, rfl, hR⟩ := hrel
      obtain ⟨s0, s1⟩ := HPS.out k
      obtain ⟨S, hS⟩ : ∃ S, sumI (P.take k) = S := ⟨_, rfl⟩
      rw [hS] at s0 s1
      simp only [hS]
      have HS := Lib.hid hS
      have s2 : S ≤ 64000000000000 := by omega
      clear hS s1
      by_cases hlt : k < n
      · have hcell := ((hR.2.2.2).cell (p := ⟨b, off + k, none⟩) hb).trans (HC.out k (by rw [HNN.out]; exact hlt))
        have hzk := HZ.out k (by rw [HNN.out]; exact hlt)
        have hPk : P.getD k 0 = a * zs.getD k 0 / t := by rw [← HPD.out]; simp [partL, List.getD, HNN.out, hlt]
        obtain ⟨z, hzz⟩ : ∃ z, zs.getD k 0 = z := ⟨_, rfl⟩
        rw [hzz] at hcell hzk hPk
        have hkz : (k : Int) < (n : Int) := by omega
        have hIz : I64 z := by unfold I64; omega
        have hin : inW (a * z) = true := prod_in hIa hIz
        have M := Lib.hid (fun W => rmul_any a z hIa hIz W)
        have D := fun W => rdiv_any (wH (a * z)) (wL (a * z)) t (wH_I64 _) (wL_U64 _) hIt ht1 W
        simp only [val_w hin] at D
        have p0 : 0 ≤ a * z := Int.mul_nonneg A0 hzk.1
        have p1 : a * z ≤ a * t := Int.mul_le_mul_of_nonneg_left hzk.2.2 A0
        obtain ⟨PP, hP⟩ : ∃ PP, a * z = PP := ⟨_, rfl⟩
        rw [hP] at p0 p1
        have hq0 : 0 ≤ PP / t := Int.ediv_nonneg p0 (by omega)
        have hq1 : PP / t ≤ a := by
          have := Int.ediv_le_ediv (c := t) (by omega) p1
          rwa [Int.mul_ediv_cancel _ (by omega)] at this
        obtain ⟨Q, hQ⟩ : ∃ Q, PP / t = Q := ⟨_, rfl⟩
        obtain ⟨R, hRR⟩ : ∃ R, PP % t = R := ⟨_, rfl⟩
        rw [hQ] at hq0 hq1
        have hinq : inW Q = true := by rw [inW_iff]; omega
        simp only [hP] at M D
        simp only [hQ, hRR] at D
        have hiq : isInt Q = true := by unfold isInt; simp; omega
        have htq : toInt Q = Q := by unfold toInt; rw [hiq, if_pos rfl]
        have I := fun W => rint_any (wH Q) (wL Q) (wH_I64 _) (wL_U64 _) W
        simp only [val_w hinq, hiq, htq] at I
        have I := Lib.hid I; have D := Lib.hid D
        have HR := Lib.hid hR
        have hEQ : Hid (a * zs.getD k 0 / t = Q ∧ a * zs.getD k 0 % t = R) := Lib.hid (by rw [hzz, hP]; exact ⟨hQ, hRR⟩)
        have HNX : Hid (a - sumI (P.take (k + 1)) = a - S - Q) := Lib.hid (by rw [take_snoc_i P k (by rw [HPL.out]; exact hlt), sumI_snoc, HS.out, hPk, hP, hQ]; omega)
        have sW := hR.2.2.2.size
        clear hP hQ hRR hR hinq p0 p1 hin hzz hiq htq hPk
        go_wp2_with fail
        refine (M.out _).mono ?_
        rintro e w1 ⟨rfl, q1⟩
        go_wp2_with fail
        refine (D.out _).mono ?_
        rintro e w2 ⟨rfl, q2⟩
        go_wp2_with fail
        refine (I.out _).mono ?_
        rintro e w3 ⟨rfl, q3⟩
        have B3 : Below wr.heap.size wr w3 := btr (bal (btr q1 q2) _) q3
        have s3 := B3.size
        clear q1 q2 q3
        have hown := (own_below HR.out.1 B3).alloc (.cells #[.int .i64 Q] 3)
        clear M D I
        go_wp2_with (first | (at_builtin; refine wpList_append_own_at _ rfl (.tmp 64) (.tmp 66) 44 rfl w.heap.size 3 i0 (.int .i64 0) 1 8 Tryd.underlying44 hi hz0 hz1 hz2 rfl (by decide) _ _ _ rfl hown ⟨w3.heap.size, 0, none⟩ 1 1 [.int .i64 Q] rfl rfl (news1 w3 Q) (one1 Q) (by unfold maxLen; omega) (by omega) (by simp; omega) ?_; intro x' w4 ox gx _ ax; have hown2 := HR.out.mid B3 gx (o2 := .cells #[.int .i64 R] 3); have s4 := gx.size) | (at_builtin; refine wpList_append_own_at _ rfl (.tmp 68) (.tmp 70) 44 rfl w.heap.size 3 i0 (.int .i64 0) 1 8 Tryd.underlying44 hi hz0 hz1 hz2 rfl (by decide) _ _ _ rfl hown2 ⟨w4.heap.size, 0, none⟩ 1 1 [.int .i64 R] rfl rfl (news1 w4 R) (one1 R) (by unfold maxLen; omega) (by omega) (by simp at s4 ⊢; omega) ?_; intro y' w5 oy gy _ ay))
        go_roundw
        case rel => exact ⟨k + 1, by omega, by go_num, by rw [HNX.out], HR.out.step (by rw [HNN.out]; exact hlt) B3 (by rw [hEQ.out.1]; exact ox) gx ax (by rw [hEQ.out.2]; exact oy) gy ay⟩
        case measure => simp [RowKit.intOf]; omega
      · have he : k = n := by omega
        subst he
        have hS2 := HS.out
        rw [List.take_of_length_le (by rw [HPL.out]; exact Nat.le_refl _)] at hS2
        have hLS : a - S = (L : Int) := by rw [← hS2]; exact HL.out
        rw [hLS]
        obtain ⟨gx, cx, gy, cy, rfl, rfl, hxy, hgx, hgy, hgx1, hgy1, XP, YR, B1⟩ := HSR.out _ _ _ hR
        have HXP := Lib.hid XP; have HYR := Lib.hid YR; have HB1 := Lib.hid B1
        clear hS2 hLS s0 s2 hR XP YR B1
        obtain ⟨PS, hPS⟩ : ∃ PS, psF m RM = PS := ⟨_, rfl⟩
        have HPSL : Hid (PS.length = k) := Lib.hid (by rw [← hPS, psF_len]; exact HN1.out.symm)
        have HTOP : Hid (∀ j, j < k → ∃ p : Nat, p < k ∧ PS.getD j 0 = (p : Int) ∧ Top (cutL RM (PS.take j)) k p) := Lib.hid (fun j hj => by
          have hm := HN1.out
          refine ⟨plF m RM j, by rw [hm]; exact ((plF_sd m RM).own j (by omega) (by omega)).2, by rw [← hPS]; exact psF_at m RM j (by omega), ?_⟩
          rw [← hPS, hm]
          exact top_cut (by rw [HRL.out]; exact hm) (fun i hi => by
            rw [← HRD.out]
            have hi2 : i < zs.length := by rw [HNN.out]; omega
            rw [show (remL a t zs).getD i 0 = a * zs.getD i 0 % t by simp [remL, List.getD, hi2]]
            exact Int.emod_nonneg _ (by omega)) j (by omega))
        have HLK : Hid (L ≤ k) := Lib.hid (by rw [HN1.out]; exact HLN.out)
        have HCR : Hid (CRel w gx gy k P RM PS 0 wr) := Lib.hid ⟨HXP.out, HYR.out, HB1.out⟩
        have HRB : Hid (∀ j i : Nat, -1 ≤ (cutL RM (PS.take j)).getD i 0 ∧ (cutL RM (PS.take j)).getD i 0 ≤ t) := Lib.hid (fun j => cutL_low t _ RM (fun i => by
          by_cases hi : i < zs.length
          · rw [← HRD.out, show (remL a t zs).getD i 0 = a * zs.getD i 0 % t by simp [remL, List.getD, hi]]
            have := Int.emod_nonneg (a * zs.getD i 0) (show t ≠ 0 by omega)
            have := Int.emod_lt_of_pos (a * zs.getD i 0) (show 0 < t by omega)
            omega
          · have hi2 : RM.length ≤ i := by rw [HRL.out, ← HNN.out]; omega
            rw [show RM.getD i 0 = 0 by simp [List.getD, hi2]]
            omega) (by omega))
        have hLk : (L : Int) ≤ 64 := by have := HLK.out; omega
        have HPSD := Lib.hid hPS
        have k1 : 1 ≤ k := by have := HN1.out; omega
        clear hPS hlt hk
        go_wp2_with fail
        go_loopw [8] (fun l wr => ∃ j : Nat, j ≤ L ∧ l = .int .i64 ((L : Int) - j) ∧ CRel w gx gy k P RM PS j wr) (fun l _ => (RowKit.intOf l).toNat)
        case atStart => exact ⟨0, by omega, by simp, HCR.out⟩
        case round =>
          obtain ⟨j, hj, rfl, hC⟩ := hrel
          obtain ⟨wo, rfl⟩ : ∃ wo : World, wo = wr := ⟨_, rfl⟩
          by_cases hjl : j < L
          · obtain ⟨p, hp, hpe, hT⟩ := HTOP.out j (by have := HLK.out; omega)
            have hjz : (j : Int) < (L : Int) := by omega
            have hC1 := hC.1; have hC2 := hC.2.1
            have HCC := Lib.hid hC
            have HPE := Lib.hid hpe; have HTT := Lib.hid hT
            have hrb := HRB.out j
            obtain ⟨r, hr⟩ : ∃ r, cutL RM (PS.take j) = r := ⟨_, rfl⟩
            rw [hr] at hC2 hrb
            have HRR := Lib.hid hr
            have HC2 := Lib.hid hC2; have HB := Lib.hid hrb
            obtain ⟨cp, cf⟩ := hC1.2 p hp
            have bb := bumps_in HPI.out (PS.take j)
            have bp := bb p
            have blen : (PS.take j).length ≤ 64 := by rw [List.length_take]; omega
            obtain ⟨V, hV⟩ : ∃ V, (bumps P (PS.take j)).getD p 0 = V := ⟨_, rfl⟩
            rw [hV] at cp bp
            obtain ⟨v0, v1⟩ := bp
            have v2 : V ≤ 1000000000064 := by omega
            have HV := Lib.hid hV
            obtain ⟨yp, yf⟩ := hC2.2 p hp
            have YP := Lib.hid yp; have YF := Lib.hid yf; have CP := Lib.hid cp; have CF := Lib.hid cf
            clear hC hC1 hC2 hpe hT hr hrb cp cf bb v1 blen hV yp yf
            go_wp2_with fail
            go_loopw [18, 19] (fun v i wx => ∃ z : Nat, wx = wo.drewN z ∧ ∃ c q : Nat, i = .int .i64 q ∧ v = .int .i64 c ∧ q ≤ k ∧ Top r q c) (fun _ i _ => k - (RowKit.intOf i).toNat)
            case atStart => exact ⟨0, rfl, 0, 1, rfl, rfl, k1, Top.one r⟩
            case round =>
              obtain ⟨zz, rfl, c, q2, rfl, rfl, hq, hTc⟩ := hrel
              by_cases hqk : q2 < k
              · have hqz : (q2 : Int) < (k : Int) := by omega
                have hck := hTc.1
                obtain ⟨x1, _⟩ := HC2.out.2 q2 hqk
                obtain ⟨x2, _⟩ := HC2.out.2 c (by omega)
                have HTc := Lib.hid hTc
                obtain ⟨u1, hu1⟩ : ∃ u, r.getD q2 0 = u := ⟨_, rfl⟩
                obtain ⟨u2, hu2⟩ : ∃ u, r.getD c 0 = u := ⟨_, rfl⟩
                rw [hu1] at x1; rw [hu2] at x2
                have HU1 := Lib.hid hu1; have HU2 := Lib.hid hu2
                have hcz : (c : Int) < (k : Int) := by omega
                clear hTc hu1 hu2
                by_cases hgt : u2 < u1
                · go_wp2_with fail
                  go_quiet (fail)
                  go_wp2_with fail
                  go_roundw
                  case rel => exact ⟨_, rfl, q2, q2 + 1, by go_num, rfl, by omega, HTc.out.gt (by rw [HU1.out, HU2.out]; exact hgt)⟩
                  case measure => simp [RowKit.intOf]; omega
                · go_wp2_with fail
                  go_quiet (fail)
                  go_wp2_with fail
                  go_roundw
                  case rel => exact ⟨_, rfl, c, q2 + 1, by go_num, rfl, by omega, HTc.out.le (by rw [HU1.out, HU2.out]; omega)⟩
                  case measure => simp [RowKit.intOf]; omega
              · have he : q2 = k := by omega
                subst he
                obtain rfl : c = p := hTc.uniq (by rw [← HRR.out]; exact HTT.out)
                have cp := CP.out; have cf := CF.out; have yp := YP.out; have yf := YF.out
                have hcz : (c : Int) < (q2 : Int) := by omega
                clear hTc
                go_wp2_with fail
                go_roundw
                case rel => exact ⟨j + 1, by omega, by go_num, by have := (HCC.out.drewN zz).step hxy hgx hgy (by rw [HPSL.out]; have := HLK.out; omega) HPE.out hp; rw [HV.out] at this; exact this⟩
                case measure => simp [RowKit.intOf]; omega
          · have he : j = L := by omega
            subst he
            obtain ⟨G1, G2, G3⟩ := hC
            obtain ⟨F, hF⟩ : ∃ F, bumps P (PS.take j) = F := ⟨_, rfl⟩
            rw [hF] at G1
            have HFD := Lib.hid hF; have HG1 := Lib.hid G1; have HG3 := Lib.hid G3
            have hinF : inB (1000000000000 + 64) F := by
              rw [← hF]
              have bb := bumps_in HPI.out (PS.take j)
              have blen : (PS.take j).length ≤ 64 := by rw [List.length_take]; omega
              intro i
              have := bb i
              omega
            have HIN := Lib.hid hinF
            have hFl := G1.1
            have HFL := Lib.hid hFl
            clear G1 G2 G3 hF hinF hFl
            have hfin : F = finL a (bumps P ((psF m RM).take j)) := by rw [HPSD.out, HFD.out]; unfold finL; rw [if_neg (by omega)]
            have HFIN := Lib.hid hfin
            clear hfin
            have hkz : ¬ (k : Int) ≤ 0 := by omega
            go_wp2_with fail
            go_loopw [20] (fun i wr => i = .int .i64 0 ∧ XRow wr gx k F ∧ Below w.heap.size w wr) (fun _ _ => 0)
            case atStart => exact ⟨rfl, HG1.out, HG3.out⟩
            case round =>
              obtain ⟨rfl, hX, hB⟩ := hrel
              rw [HFIN.out] at hX
              have HX := Lib.hid hX
              clear hX
              have k0 : (0 : Int) < (k : Int) := by omega
              go_wp2_with fail
              go_ret2
              exact ⟨gx, cx, by rw [HN1.out]; rfl, by rw [← HN1.out]; exact HX.out, hB⟩
end Go.Proofs.YtjhfbnndapopgaaDoor
