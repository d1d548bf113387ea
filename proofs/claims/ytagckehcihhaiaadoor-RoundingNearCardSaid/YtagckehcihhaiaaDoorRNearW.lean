/-
  The walk of the law RoundingNear.
-/
import Derived.Test.YtagckehcihhaiaaDoorRNear
import Derived.Test.YtagckehcihhaiaaDoorRMirr
import Derived.Test.YtagckehcihhaiaaDoorRefM
namespace Go.Proofs.YtagckehcihhaiaaDoor
open Go Go.RowKit Go.Lib WM

theorem nearF_of (a l n m : Int) (hl : U64 l) (hn : 1 ≤ n) (h1 : 1 ≤ m) (h2 : m ≤ 6) : NearF a (quoI (val a l) n m) n m (quoI (val a l) n m * n - val a l) := by
  obtain ⟨f1, f2, f3, f4, f5, f6, f7, f8, f9, f10⟩ := near_facts (val a l) n m hn h1 h2
  have hs : (0 ≤ a → 0 ≤ val a l) ∧ (a < 0 → val a l < 0) ∧ (0 ≤ val a l → 0 ≤ a) ∧ (val a l < 0 → a < 0) := by unfold val U64 at *; omega
  obtain ⟨s1, s2, s3, s4⟩ := hs
  generalize quoI (val a l) n m * n - val a l = D at *
  generalize quoI (val a l) n m = q at *
  refine ⟨fun h k => f1 h (s1 k), fun h k => f2 h (s2 k), fun h k => f3 h (s1 k), fun h k => f4 h (s2 k), f5, f6, ?_, ?_, ?_, ?_⟩
  · intro h; have := f7 h; omega
  · intro h k; exact s3 (f8 h (by omega))
  · intro h k; exact s4 (f9 h (by omega))
  · intro h k; exact f10 h (by omega)
theorem dE_ways (v n m : Int) : (dE v n m = 1 ∧ dQ v n m = 0 ∧ (n < 1 ∨ validB m = false)) ∨ (dE v n m = 6 ∧ dQ v n m = 0 ∧ 1 ≤ n ∧ validB m = true ∧ isInt (quoI v n m) = false) ∨ (dE v n m = 0 ∧ dQ v n m = quoI v n m ∧ 1 ≤ n ∧ validB m = true ∧ isInt (quoI v n m) = true) := by
  unfold dE dQ toInt
  by_cases c : n < 1
  · rw [show decide (1 ≤ n) = false by simp; omega]; exact Or.inl ⟨rfl, rfl, Or.inl c⟩
  · rw [show decide (1 ≤ n) = true by simp; omega]
    cases h : validB m
    · exact Or.inl ⟨rfl, rfl, Or.inr rfl⟩
    · cases k : isInt (quoI v n m)
      · exact Or.inr (Or.inl ⟨rfl, rfl, by omega, rfl, rfl⟩)
      · exact Or.inr (Or.inr ⟨rfl, rfl, by omega, rfl, rfl⟩)

set_option maxRecDepth 100000 in
set_option maxHeartbeats 16000000 in
theorem near_of (L : Live2) (a l n m : Int) (hh : I64 a) (hl : U64 l) (hn : I64 n) (_hm : I64 m) (w : World) (hch : Ch w) :
    Calls Tryd.prog 10 #[.agg #[.int .i64 a, .int .u64 l], .int .i64 n, .int .i64 m] w fun e w' => e = .returned (.bool true) ∧ Below w.heap.size w w' := by
  have D1 := fun W hC => rdivide_of a l n m hh hl hn W hC
  have V := fun W => rvalid_any m W
  have X0 := Own.new w (.int .i64 a) (.int .u64 l) 24
  have Z0 := bal (bref w) (.cells #[.int .i64 a, .int .u64 l] 24)
  rcases dE_ways (val a l) n m with ⟨e1, e2, e3⟩ | ⟨e1, e2, e3, e4, e5⟩ | ⟨e1, e2, e3, e4, e5⟩
  · simp only [e1, e2] at D1
    have D1 := Lib.hid D1
    clear e1 e2
    by_cases hn1 : n < 1
    · clear e3 V
      go_enter Tryd.func10, Tryd.ntmps10
      go_wp2_with fail
      refine (D1.out _ (hch.keep Z0)).mono ?_
      rintro e w1 ⟨rfl, q1⟩
      have X1 := X0.keep q1
      have Z1 := btr Z0 q1
      have h1 := hch.keep Z1
      have lb := X1.lt
      have XX := X1
      obtain ⟨x0, x1, x2, x3⟩ := XX
      clear X0 Z0 q1 D1
      go_wp2_with fail
      refine (L _ h1).mono ?_
      rintro e w9 ⟨rfl, q9⟩
      have Z9 := btr Z1 q9
      go_wp2_with fail
      go_ret
      exact ⟨rfl, Z9⟩
    · have hv : validB m = false := by rcases e3 with h | h; exact absurd h hn1; exact h
      simp only [hv] at V
      have V := Lib.hid V
      clear e3 hv
      go_enter Tryd.func10, Tryd.ntmps10
      go_wp2_with fail
      refine (D1.out _ (hch.keep Z0)).mono ?_
      rintro e w1 ⟨rfl, q1⟩
      have X1 := X0.keep q1
      have Z1 := btr Z0 q1
      have h1 := hch.keep Z1
      have lb := X1.lt
      have XX := X1
      obtain ⟨x0, x1, x2, x3⟩ := XX
      clear X0 Z0 q1 D1
      go_wp2_with fail
      refine (V.out _).mono ?_
      rintro e w2 ⟨rfl, rfl⟩
      go_wp2_with fail
      refine (L _ h1).mono ?_
      rintro e w9 ⟨rfl, q9⟩
      have Z9 := btr Z1 q9
      go_wp2_with fail
      go_ret
      exact ⟨rfl, Z9⟩
  · simp only [e1, e2] at D1
    simp only [e4] at V
    have D1 := Lib.hid D1; have V := Lib.hid V
    have hnn : ¬ n < 1 := by omega
    have QD := fun W => rdiv_any a l n hh hl hn e3 W
    have hQ : inW (val a l / n) = true := (div_parts e3 hn (inW_val hh hl)).1
    have QI := fun W => rint_any (wH (val a l / n)) (wL (val a l / n)) (wH_I64 _) (wL_U64 _) W
    simp only [val_w hQ] at QI
    have hlow := low_facts (val a l) n m e5
    obtain ⟨QH, g1⟩ : ∃ x, wH (val a l / n) = x := ⟨_, rfl⟩
    obtain ⟨QL, g2⟩ : ∃ x, wL (val a l / n) = x := ⟨_, rfl⟩
    obtain ⟨R, g3⟩ : ∃ x, val a l % n = x := ⟨_, rfl⟩
    obtain ⟨T, g4⟩ : ∃ x, toInt (val a l / n) = x := ⟨_, rfl⟩
    obtain ⟨B, g5⟩ : ∃ x, isInt (val a l / n) = x := ⟨_, rfl⟩
    simp only [g1, g2, g3] at QD
    simp only [g1, g2, g4, g5] at QI
    rw [g4, g5] at hlow
    have QD := Lib.hid QD; have QI := Lib.hid QI
    clear g1 g2 g3 g4 g5 hQ e1 e2 e4 e5
    rcases hlow with rfl | ⟨rfl, rfl⟩
    all_goals
      go_enter Tryd.func10, Tryd.ntmps10
      go_wp2_with fail
      refine (D1.out _ (hch.keep Z0)).mono ?_
      rintro e w1 ⟨rfl, q1⟩
      have X1 := X0.keep q1
      have Z1 := btr Z0 q1
      have h1 := hch.keep Z1
      have lb := X1.lt
      have XX := X1
      obtain ⟨x0, x1, x2, x3⟩ := XX
      clear X0 Z0 q1 D1
      go_wp2_with fail
      refine (V.out _).mono ?_
      rintro e w2 ⟨rfl, rfl⟩
      go_wp2_with fail
      refine (QD.out _).mono ?_
      rintro e w3 ⟨rfl, q3⟩
      have Z3 := bal (btr Z1 q3) (.cells #[.int .i64 QH, .int .u64 QL] 24)
      clear x0 x1 x2 x3 X1 q3
      go_wp2_with fail
      refine (QI.out _).mono ?_
      rintro e w4 ⟨rfl, q4⟩
      have Z4 := btr Z3 q4
      go_wp2_with fail
      refine (L _ (hch.keep Z4)).mono ?_
      rintro e w9 ⟨rfl, q9⟩
      have Z9 := btr Z4 q9
      go_wp2_with fail
      go_ret
      exact ⟨rfl, Z9⟩
  · simp only [e1, e2] at D1
    simp only [e4] at V
    have D1 := Lib.hid D1; have V := Lib.hid V
    have hnn : ¬ n < 1 := by omega
    have hm6 : 1 ≤ m ∧ m ≤ 6 := by simpa [validB] using e4
    have hNF := nearF_of a l n m hl e3 hm6.1 hm6.2
    obtain ⟨d1, d2⟩ := quo_near (v := val a l) (n := n) (m := m) e3
    have iq : I64 (quoI (val a l) n m) := by have := e5; simp only [isInt, decide_eq_true_eq] at this; unfold I64; omega
    obtain ⟨q, hq⟩ : ∃ q, quoI (val a l) n m = q := ⟨_, rfl⟩
    rw [hq] at hNF d1 d2 iq
    simp only [hq] at D1
    have MU := fun W => rmul_any q n iq hn W
    have hP : inW (q * n) = true := prod_in iq hn
    have SUB := fun W => rsub_any (wH (q * n)) (wL (q * n)) a l (wH_I64 _) (wL_U64 _) hh hl W
    obtain ⟨D, hD⟩ : ∃ D, q * n - val a l = D := ⟨_, rfl⟩
    have nn : n ≤ 9223372036854775807 := by unfold I64 at hn; omega
    rw [hD] at hNF d1 d2
    have iD : inW D = true := by rw [inW_iff]; omega
    simp only [val_w hP, hD, wE_in iD] at SUB
    have NE := fun W => near_any a l q n m D e3 nn hm6.1 hm6.2 d1 d2 hNF W
    obtain ⟨DH, g1⟩ : ∃ x, wH D = x := ⟨_, rfl⟩
    obtain ⟨DL, g2⟩ : ∃ x, wL D = x := ⟨_, rfl⟩
    obtain ⟨PH, g3⟩ : ∃ x, wH (q * n) = x := ⟨_, rfl⟩
    obtain ⟨PL, g4⟩ : ∃ x, wL (q * n) = x := ⟨_, rfl⟩
    simp only [g1, g2, g3, g4] at SUB
    simp only [g3, g4] at MU
    simp only [g1, g2] at NE
    have MU := Lib.hid MU; have SUB := Lib.hid SUB; have NE := Lib.hid NE; have D1 := Lib.hid D1.out
    clear g1 g2 g3 g4 hD hq iD hP iq hNF d1 d2 e1 e2 e4 e5 hm6
    go_enter Tryd.func10, Tryd.ntmps10
    go_wp2_with fail
    refine (D1.out _ (hch.keep Z0)).mono ?_
    rintro e w1 ⟨rfl, q1⟩
    have X1 := X0.keep q1
    have Z1 := btr Z0 q1
    have h1 := hch.keep Z1
    have lb := X1.lt
    have XX := X1
    obtain ⟨x0, x1, x2, x3⟩ := XX
    clear X0 Z0 q1 D1
    go_wp2_with fail
    refine (V.out _).mono ?_
    rintro e w2 ⟨rfl, rfl⟩
    go_wp2_with fail
    go_cut [14, 15] (fun v14 v15 wx => ∃ c : Nat, v14 = .pointer (some ⟨c, 0, none⟩) ∧ v15 = .int .i64 0 ∧ Own wx c (.int .i64 DH) (.int .u64 DL) ∧ Own wx w.heap.size (.int .i64 a) (.int .u64 l) ∧ Below w.heap.size w wx)
    case first =>
      go_region_with (first
        | (go_at_call 26; refine (MU.out _).mono ?_; rintro e W1 ⟨rfl, hk⟩; have X2 : Own W1 w.heap.size (.int .i64 a) (.int .u64 l) := Own.keep (by repeat (first | exact X1 | refine Own.dr ?_ | refine Own.al ?_ _)) hk; have Z2 : Below w.heap.size w W1 := btr (by repeat (first | exact Z1 | refine bdr ?_ | refine bal ?_ _)) hk; have l1 := X2.lt; have XY := X2; obtain ⟨y0, y1, y2, y3⟩ := XY; first | (refine (fun (XA : Own W1 w1.heap.size (.int .i64 0) (.int .u64 0)) => ?_) (Own.keep ?_ hk); rotate_left; (refine ⟨?_, ?_, ?_, ?_⟩ <;> (simp [go_sem]; done))) | skip)
        | (go_at_call 35; refine (SUB.out _).mono ?_; rintro e W2 ⟨rfl, hk2⟩; have X3 : Own W2 w.heap.size (.int .i64 a) (.int .u64 l) := Own.keep (by repeat (first | exact X2 | refine Own.dr ?_ | refine Own.al ?_ _)) hk2; have Z3 : Below w.heap.size w W2 := btr (by repeat (first | exact Z2 | refine bdr ?_ | refine bal ?_ _)) hk2; have l2 := X3.lt; first | (have XB := Own.keep XA hk2; obtain ⟨v0, v1, v2, v3⟩ := XB) | (refine (fun (XB : Own W2 W1.heap.size (.int .i64 0) (.int .u64 0)) => ?_) (Own.keep ?_ hk2); rotate_left; (refine ⟨?_, ?_, ?_, ?_⟩ <;> (simp [go_sem]; done)); obtain ⟨v0, v1, v2, v3⟩ := XB) | skip))
      all_goals (go_wp2_with fail; (try simp only [Act.put, List.getElem_toArray, List.getElem_cons_zero, List.getElem_cons_succ, List.setIfInBounds_toArray, List.set_cons_zero, List.set_cons_succ]); go_meet; refine ⟨_, (by first | rfl | (simp [Act.put]; done)), (by first | rfl | (simp [Act.put]; done)), ?_, ?_, ?_⟩)
      all_goals (try (exact Own.new _ _ _ _))
      all_goals (try (refine Own.put (x := .int .i64 0) (y := .int .u64 0) ?_ _ _; refine ⟨?_, ?_, ?_, ?_⟩ <;> assumption))
      all_goals (repeat (first | exact X3 | exact Z3 | refine Own.dr ?_ | refine Own.al ?_ _ | refine Own.far ?_ (by dsimp only; omega) _ | refine bdr ?_ | refine bal ?_ _ | refine bset ?_ (by dsimp only; omega) _))
    case rest =>
      obtain ⟨c, rfl, rfl, XC, X5, Z5⟩ := hcut
      clear X1 Z1 x0 x1 x2 x3 MU SUB lb h1
      have h5 := hch.keep Z5
      obtain ⟨c0, c1, _, _⟩ := XC
      obtain ⟨x0, x1, _, _⟩ := X5
      go_wp2_with fail
      refine (NE.out _).mono ?_
      rintro e w6 ⟨rfl, q6⟩
      have Z6 := btr Z5 q6
      have h6 := hch.keep Z6
      clear c0 c1 x0 x1
      go_wp2_with fail
      refine (L _ h6).mono ?_
      rintro e w9 ⟨rfl, q9⟩
      have Z9 := btr Z6 q9
      go_wp2_with fail
      go_ret
      exact ⟨rfl, Z9⟩
end Go.Proofs.YtagckehcihhaiaaDoor
