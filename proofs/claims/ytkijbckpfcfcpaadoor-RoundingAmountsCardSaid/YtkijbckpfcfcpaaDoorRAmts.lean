/-
  The walk of the law RoundingAmounts, for what live answers.
-/
import Derived.Test.YtkijbckpfcfcpaaDoorRPercents
import Derived.Test.YtkijbckpfcfcpaaDoorRAP
import Derived.Test.YtkijbckpfcfcpaaDoorRAR
import Derived.Test.YtkijbckpfcfcpaaDoorRefD
import Derived.Test.YtkijbckpfcfcpaaDoorRefE
import Derived.Test.YtkijbckpfcfcpaaDoorRefM
import Derived.Deep.RegionHeld3
import Derived.StillTactics
import Derived.Deep.RegionWith
import Derived.Deep.DeepCutAuto
namespace Go.Proofs.YtkijbckpfcfcpaaDoor
open Go Go.RowKit Go.Lib WM

theorem amt_back {v m : Int} (h : aE v m = 0) : I64 (aQ v m) ∧ inW (aR v m) = true ∧ aQ v m * 1603080000000 + aR v m = v ∧ cmpW (aR v m) 1603080000000 = -1 ∧ cmpW (aR v m) (-1603080000000) = 1 := by
  obtain ⟨c1, c2, c3⟩ := amt_cases v m
  by_cases hE : dE v 1603080000000 m = 0
  · cases hg : goodB (dQ v 1603080000000 m)
    · obtain ⟨_, _, e3⟩ := c2 hE hg
      omega
    · obtain ⟨e1, e2, e3, e4, e5⟩ := c3 hE hg
      have hg' : -1000000000000 ≤ dQ v 1603080000000 m ∧ dQ v 1603080000000 m ≤ 1000000000000 := by simpa [goodB] using hg
      obtain ⟨_, hq⟩ := dE_zero hE
      have hn := quo_near (v := v) (n := 1603080000000) (m := m) (by omega)
      rw [← hq, Int.mul_comm] at hn
      rw [e1, e2]
      refine ⟨by unfold I64; omega, e4, by omega, ?_, ?_⟩ <;> (unfold cmpW; repeat (first | omega | rfl | split))
  · obtain ⟨_, _, e3⟩ := c1 hE
    omega

/-- What must live through the last region: three boxes, the table. -/
theorem keep8 {w W W1 : World} {n2 n5 n6 : Nat} {a b c d e f : Value}
    (h : W.cell? ⟨n2, 0, none⟩ = some a ∧ W.cell? ⟨n2, 1, none⟩ = some b ∧ W.cell? ⟨n5, 0, none⟩ = some c ∧ W.cell? ⟨n5, 1, none⟩ = some d ∧ W.cell? ⟨n6, 0, none⟩ = some e ∧ W.cell? ⟨n6, 1, none⟩ = some f ∧ Ch W ∧ Below w.heap.size w W) (hk : Below W.heap.size W W1) :
    W1.cell? ⟨n2, 0, none⟩ = some a ∧ W1.cell? ⟨n2, 1, none⟩ = some b ∧ W1.cell? ⟨n5, 0, none⟩ = some c ∧ W1.cell? ⟨n5, 1, none⟩ = some d ∧ W1.cell? ⟨n6, 0, none⟩ = some e ∧ W1.cell? ⟨n6, 1, none⟩ = some f ∧ Ch W1 ∧ Below w.heap.size w W1 :=
  ⟨keepc hk h.1, keepc hk h.2.1, keepc hk h.2.2.1, keepc hk h.2.2.2.1, keepc hk h.2.2.2.2.1, keepc hk h.2.2.2.2.2.1, h.2.2.2.2.2.2.1.keep hk, btr h.2.2.2.2.2.2.2 hk⟩

set_option maxRecDepth 100000 in
set_option maxHeartbeats 16000000 in
theorem amounts_of (L : Live2) (a l m : Int) (hh : I64 a) (hl : U64 l) (_hm : I64 m) (w : World) (hch : Ch w) :
    Calls Tryd.prog 5 #[.agg #[.int .i64 a, .int .u64 l], .int .i64 m] w fun e w' => e = .returned (.bool true) ∧ Below w.heap.size w w' := by
  have C1 := fun W hC => amount_any a l m hh hl W hC
  have C2 := fun W => ramount_any a l m hh hl W
  have M := amt_back (v := val a l) (m := m)
  obtain ⟨v, hv⟩ : ∃ v, val a l = v := ⟨_, rfl⟩
  simp only [hv] at C1 C2 M
  obtain ⟨Q, e1⟩ : ∃ x, aQ v m = x := ⟨_, rfl⟩
  obtain ⟨R, e2⟩ : ∃ x, aR v m = x := ⟨_, rfl⟩
  obtain ⟨E, e3⟩ : ∃ x, aE v m = x := ⟨_, rfl⟩
  simp only [e1, e2, e3] at C1 C2 M
  have C1 := Lib.hid C1; have C2 := Lib.hid C2
  clear e1 e2 e3
  by_cases hE : E = 0
  · obtain ⟨iQ, iR, mS, mC, mD⟩ := M hE
    subst hE
    have iG : I64 1603080000000 := by unfold I64; omega
    have iG' : I64 (-1603080000000) := by unfold I64; omega
    have MU := fun W => rmul_any Q 1603080000000 iQ iG W
    have hP : inW (Q * 1603080000000) = true := prod_in iQ iG
    have AD := fun W => radd_any (wH (Q * 1603080000000)) (wL (Q * 1603080000000)) (wH R) (wL R) (wH_I64 _) (wL_U64 _) (wH_I64 _) (wL_U64 _) W
    have wz : wE v = 0 := wE_in (by rw [← hv]; exact inW_val hh hl)
    have wa : wH v = a := by rw [← hv]; exact wH_val hh hl
    have wb : wL v = l := by rw [← hv]; exact wL_val hh hl
    simp only [val_w hP, val_w iR, mS, wz, wa, wb] at AD
    have OF := fun W => rof_any 1603080000000 iG W
    have OG := fun W => rof_any (-1603080000000) iG' W
    have CM := fun W => rcmp_any (wH R) (wL R) (wH 1603080000000) (wL 1603080000000) (wL_U64 _) (wL_U64 _) W
    have CN := fun W => rcmp_any (wH R) (wL R) (wH (-1603080000000)) (wL (-1603080000000)) (wL_U64 _) (wL_U64 _) W
    simp only [val_w iR, val_w (inW_I64 iG), val_w (inW_I64 iG'), mC, mD] at CM CN
    obtain ⟨RH, e1⟩ : ∃ x, wH R = x := ⟨_, rfl⟩
    obtain ⟨RL, e2⟩ : ∃ x, wL R = x := ⟨_, rfl⟩
    obtain ⟨PH, e3⟩ : ∃ x, wH (Q * 1603080000000) = x := ⟨_, rfl⟩
    obtain ⟨PL, e4⟩ : ∃ x, wL (Q * 1603080000000) = x := ⟨_, rfl⟩
    obtain ⟨GH, e5⟩ : ∃ x, wH 1603080000000 = x := ⟨_, rfl⟩
    obtain ⟨GL, e6⟩ : ∃ x, wL 1603080000000 = x := ⟨_, rfl⟩
    obtain ⟨NH, e7⟩ : ∃ x, wH (-1603080000000) = x := ⟨_, rfl⟩
    obtain ⟨NL, e8⟩ : ∃ x, wL (-1603080000000) = x := ⟨_, rfl⟩
    simp only [e1, e2] at C1 C2 AD CM CN
    simp only [e3, e4] at MU AD
    simp only [e5, e6] at OF CM
    simp only [e7, e8] at OG CN
    have MU := Lib.hid MU; have AD := Lib.hid AD; have OF := Lib.hid OF; have OG := Lib.hid OG; have CM := Lib.hid CM; have CN := Lib.hid CN
    clear e1 e2 e3 e4 e5 e6 e7 e8 M hv iQ iR mS mC mD iG iG' hP wz wa wb
    have A0 := Own.new w (.int .i64 a) (.int .u64 l) 24
    have h0 : Ch (w.alloc (.cells #[.int .i64 a, .int .u64 l] 24)) := hch.keep (bal (bref _) _)
    have Z0 := bal (bref w) (.cells #[.int .i64 a, .int .u64 l] 24)
    go_enter Tryd.func5, Tryd.ntmps5
    go_wp2_with fail
    refine (C1.out _ h0).mono ?_
    rintro e w1 ⟨rfl, q1⟩
    have h1 := h0.keep q1
    have A1 := (A0.keep q1).al (.cells #[.int .i64 RH, .int .u64 RL] 24)
    have zA1 := (A0.keep q1).lt
    have R1 := Own.new w1 (.int .i64 RH) (.int .u64 RL) 24
    have Z1 := bal (btr Z0 q1) (.cells #[.int .i64 RH, .int .u64 RL] 24)
    have h1' := h1.keep (bal (bref _) (.cells #[.int .i64 RH, .int .u64 RL] 24))
    have AX := A1
    obtain ⟨f0, f1, _, _⟩ := AX
    clear A0 q1 Z0 h0 h1
    go_wp2_with fail
    refine (C2.out _).mono ?_
    rintro e w2 ⟨rfl, q2⟩
    have h2 := (h1'.keep q2).keep (bal (bref _) (.cells #[.int .i64 RH, .int .u64 RL] 24))
    have A2 := (A1.keep q2).al (.cells #[.int .i64 RH, .int .u64 RL] 24)
    have R2 := (R1.keep q2).al (.cells #[.int .i64 RH, .int .u64 RL] 24)
    have zA2 := (A1.keep q2).lt
    have zR2 := (R1.keep q2).lt
    have S2 := Own.new w2 (.int .i64 RH) (.int .u64 RL) 24
    have Z2 := bal (btr Z1 q2) (.cells #[.int .i64 RH, .int .u64 RL] 24)
    clear A1 R1 Z1 q2 zA1 f0 f1 h1'
    have AX := A2; have RX := R2; have SX := S2
    obtain ⟨f0, f1, _, _⟩ := AX
    obtain ⟨f2, f3, _, _⟩ := RX
    obtain ⟨f4, f5, _, _⟩ := SX
    go_wp2_with fail
    go_cut [11, 12] (fun v11 v12 wx => ∃ c : Nat, v11 = .pointer (some ⟨c, 0, none⟩) ∧ v12 = .int .i64 0 ∧ Own wx c (.int .i64 a) (.int .u64 l) ∧ Own wx w.heap.size (.int .i64 a) (.int .u64 l) ∧ Own wx w1.heap.size (.int .i64 RH) (.int .u64 RL) ∧ Below w.heap.size w wx)
    case first =>
      go_region_with (first
        | (go_at_call 26; refine (MU.out _).mono ?_; rintro e W1 ⟨rfl, hk⟩; have X1 : Own W1 w.heap.size (.int .i64 a) (.int .u64 l) := Own.keep (by repeat (first | exact A2 | refine Own.dr ?_ | refine Own.al ?_ _)) hk; have Y1 : Own W1 w1.heap.size (.int .i64 RH) (.int .u64 RL) := Own.keep (by repeat (first | exact R2 | refine Own.dr ?_ | refine Own.al ?_ _)) hk; have Z3 : Below w.heap.size w W1 := btr (by repeat (first | exact Z2 | refine bdr ?_ | refine bal ?_ _)) hk; have l1 := Y1.lt; have l1' := X1.lt; have XY := Y1; obtain ⟨y0, y1, y2, y3⟩ := XY; first | (refine (fun (XA : Own W1 (w2.heap.size + 1) (.int .i64 0) (.int .u64 0)) => ?_) (Own.keep ?_ hk); rotate_left; (refine ⟨?_, ?_, ?_, ?_⟩ <;> (simp [go_sem]; done))) | skip)
        | (go_at_call 25; refine (AD.out _).mono ?_; rintro e W2 ⟨rfl, hk2⟩; have X3 : Own W2 w.heap.size (.int .i64 a) (.int .u64 l) := Own.keep (by repeat (first | exact X1 | refine Own.dr ?_ | refine Own.al ?_ _)) hk2; have Y3 : Own W2 w1.heap.size (.int .i64 RH) (.int .u64 RL) := Own.keep (by repeat (first | exact Y1 | refine Own.dr ?_ | refine Own.al ?_ _)) hk2; have Z4 : Below w.heap.size w W2 := btr (by repeat (first | exact Z3 | refine bdr ?_ | refine bal ?_ _)) hk2; have l2 := Y3.lt; have l3 := X3.lt; first | (have XB := Own.keep XA hk2; obtain ⟨v0, v1, v2, v3⟩ := XB) | (refine (fun (XB : Own W2 W1.heap.size (.int .i64 0) (.int .u64 0)) => ?_) (Own.keep ?_ hk2); rotate_left; (refine ⟨?_, ?_, ?_, ?_⟩ <;> (simp [go_sem]; done)); obtain ⟨v0, v1, v2, v3⟩ := XB) | skip))
      all_goals (go_wp2_with fail; go_meet; refine ⟨_, rfl, rfl, ?_, ?_, ?_, ?_⟩)
      all_goals (try (exact Own.new _ _ _ _))
      all_goals (try (refine Own.put (x := .int .i64 0) (y := .int .u64 0) ?_ _ _; refine ⟨?_, ?_, ?_, ?_⟩ <;> assumption))
      all_goals (try assumption)
      all_goals (repeat (first | exact X3 | exact Y3 | exact Z4 | refine Own.dr ?_ | refine Own.al ?_ _ | refine Own.far ?_ (by dsimp only; omega) _ | refine bdr ?_ | refine bal ?_ _ | refine bset ?_ (by dsimp only; omega) _))
    case rest =>
      obtain ⟨c, rfl, rfl, XC, X5, Y5, Z5⟩ := hcut
      clear A2 R2 S2 Z2 h2 f0 f1 f2 f3 f4 f5 C1 C2 MU AD zA2 zR2
      have XCX := XC; have XX := X5; have YX := Y5
      obtain ⟨c0, c1, _, _⟩ := XCX
      obtain ⟨x0, x1, _, _⟩ := XX
      obtain ⟨r0, r1, _, _⟩ := YX
      have K5 := And.intro c0 (And.intro c1 (And.intro x0 (And.intro x1 (And.intro r0 (And.intro r1 (And.intro (hch.keep Z5) Z5))))))
      go_wp2_with fail
      go_region_held3 (fun W => W.cell? ⟨c, 0, none⟩ = some (.int .i64 a) ∧ W.cell? ⟨c, 1, none⟩ = some (.int .u64 l) ∧ W.cell? ⟨w.heap.size, 0, none⟩ = some (.int .i64 a) ∧ W.cell? ⟨w.heap.size, 1, none⟩ = some (.int .u64 l) ∧ W.cell? ⟨w1.heap.size, 0, none⟩ = some (.int .i64 RH) ∧ W.cell? ⟨w1.heap.size, 1, none⟩ = some (.int .u64 RL) ∧ Ch W ∧ Below w.heap.size w W)
        (first | exact ⟨K5.1, K5.2.1, K5.2.2.1, K5.2.2.2.1, K5.2.2.2.2.1, K5.2.2.2.2.2.1, K5.2.2.2.2.2.2.1, bdr K5.2.2.2.2.2.2.2⟩ | exact keep8 (by assumption) hk | (go_split_ands; exact keep8 ⟨by assumption, by assumption, by assumption, by assumption, by assumption, by assumption, by assumption, by assumption⟩ hk))
        (first
          | (go_at_call 28; first | (with_reducible refine Calls.mono (OF.out _) ?_; rintro e W1 ⟨rfl, hk⟩) | (with_reducible refine Calls.mono (OG.out _) ?_; rintro e W1 ⟨rfl, hk⟩))
          | (go_at_call 27; first | (with_reducible refine Calls.mono (CM.out _) ?_; rintro e W1 ⟨rfl, hk⟩) | (with_reducible refine Calls.mono (CN.out _) ?_; rintro e W1 ⟨rfl, hk⟩))
          | (go_at_call 22; (try go_split_ands); refine (L _ (by first | assumption | (show Ch _; assumption))).mono ?_; rintro e W1 ⟨rfl, hk⟩))
      go_wp2_with fail
      (try go_split_ands)
      go_ret
      exact ⟨rfl, by first | assumption | exact btr (by assumption) hk⟩
  · clear M hv
    obtain ⟨RH, e1⟩ : ∃ x, wH R = x := ⟨_, rfl⟩
    obtain ⟨RL, e2⟩ : ∃ x, wL R = x := ⟨_, rfl⟩
    simp only [e1, e2] at C1 C2
    clear e1 e2
    have hE' : (E != 0) = true := by rw [bne_iff_ne]; exact hE
    have A0 := Own.new w (.int .i64 a) (.int .u64 l) 24
    have h0 : Ch (w.alloc (.cells #[.int .i64 a, .int .u64 l] 24)) := hch.keep (bal (bref _) _)
    have Z0 := bal (bref w) (.cells #[.int .i64 a, .int .u64 l] 24)
    go_enter Tryd.func5, Tryd.ntmps5
    go_wp2_with fail
    refine (C1.out _ h0).mono ?_
    rintro e w1 ⟨rfl, q1⟩
    have h1 := h0.keep q1
    have A1 := (A0.keep q1).al (.cells #[.int .i64 RH, .int .u64 RL] 24)
    have zA1 := (A0.keep q1).lt
    have R1 := Own.new w1 (.int .i64 RH) (.int .u64 RL) 24
    have Z1 := bal (btr Z0 q1) (.cells #[.int .i64 RH, .int .u64 RL] 24)
    have h1' := h1.keep (bal (bref _) (.cells #[.int .i64 RH, .int .u64 RL] 24))
    have AX := A1
    obtain ⟨f0, f1, _, _⟩ := AX
    clear A0 q1 Z0 h0 h1
    go_wp2_with fail
    refine (C2.out _).mono ?_
    rintro e w2 ⟨rfl, q2⟩
    have h2 := (h1'.keep q2).keep (bal (bref _) (.cells #[.int .i64 RH, .int .u64 RL] 24))
    have A2 := (A1.keep q2).al (.cells #[.int .i64 RH, .int .u64 RL] 24)
    have R2 := (R1.keep q2).al (.cells #[.int .i64 RH, .int .u64 RL] 24)
    have zA2 := (A1.keep q2).lt
    have zR2 := (R1.keep q2).lt
    have S2 := Own.new w2 (.int .i64 RH) (.int .u64 RL) 24
    have Z2 := bal (btr Z1 q2) (.cells #[.int .i64 RH, .int .u64 RL] 24)
    clear A1 R1 Z1 q2 zA1 f0 f1 h1'
    obtain ⟨f0, f1, _, _⟩ := A2
    obtain ⟨f2, f3, _, _⟩ := R2
    obtain ⟨f4, f5, _, _⟩ := S2
    go_wp2_with fail
    refine (L _ h2).mono ?_
    rintro e w3 ⟨rfl, q3⟩
    have Z3 := btr Z2 q3
    go_wp2_with fail
    go_ret
    exact ⟨rfl, Z3⟩
end Go.Proofs.YtkijbckpfcfcpaaDoor
