/-
  The contract of package rounding's Divide.
-/
import Derived.Test.YtjhfbnndapopgaaDoorRC
import Derived.Test.YtjhfbnndapopgaaDoorRDef
import Derived.Test.YtjhfbnndapopgaaDoorExact
import Derived.Deep.RegionWith
import Derived.Deep.DeepCutAuto
namespace Go.Proofs.YtjhfbnndapopgaaDoor
open Go Go.RowKit WM

theorem sz8 {b n : Nat} (h : b < n) : b < n + 1 ∧ b < n + 1 + 1 ∧ b < n + 1 + 1 + 1 ∧ b < n + 1 + 1 + 1 + 1 ∧ b ≤ n ∧ b ≤ n + 1 ∧ b ≤ n + 1 + 1 ∧ b ≤ n + 1 + 1 + 1 := by omega

theorem rise_any (a l r n m : Int) (hl : U64 l) (hr1 : 1 ≤ r) (hrn : r < n) (hn : n ≤ 9223372036854775807) (hm : 1 ≤ m ∧ m ≤ 6) (w : World) (hch : Ch w) :
    Calls Tryd.prog 52 #[.agg #[.int .i64 a, .int .u64 l], .int .i64 r, .int .i64 n, .int .i64 m] w fun e w' => e = .returned (.int .i64 (if upB (decide (val a l < 0)) (oddB (val a l)) r n m then 1 else 0)) ∧ Below w.heap.size w w' := by
  have h0 : val 0 0 = 0 := by decide
  have hv2 : l % 2 = val a l % 2 := by unfold val; omega
  obtain ⟨hf, hhf⟩ : ∃ x, cmpW r (n - r) = x := ⟨_, rfl⟩
  have hfb : -1 ≤ hf ∧ hf ≤ 1 := by rw [← hhf]; unfold cmpW; split <;> (try split) <;> omega
  by_cases c : val a l < 0
  · have hk : cmpW (val a l) (val 0 0) = -1 := by rw [h0]; unfold cmpW; rw [if_pos c]
    obtain ⟨i, hi⟩ : ∃ i : Nat, (i : Int) = m * 6 + 0 * 3 + (1 + hf) := ⟨(m * 6 + 0 * 3 + (1 + hf)).toNat, by omega⟩
    have := rise_walk a l r n m 0 hf _ i hl hr1 hrn hn (-1) hk (Or.inl ⟨by omega, rfl⟩) hhf hfb hm hi rfl w hch
    rw [rise_eq (val a l) r n m l hm 0 hf (Or.inl ⟨c, rfl⟩) hhf i hi hv2] at this
    exact this
  · have hk : 0 ≤ cmpW (val a l) (val 0 0) := by rw [h0]; unfold cmpW; rw [if_neg c]; split <;> omega
    obtain ⟨i, hi⟩ : ∃ i : Nat, (i : Int) = m * 6 + 1 * 3 + (1 + hf) := ⟨(m * 6 + 1 * 3 + (1 + hf)).toNat, by omega⟩
    have := rise_walk a l r n m 1 hf _ i hl hr1 hrn hn _ rfl (Or.inr ⟨hk, rfl⟩) hhf hfb hm hi rfl w hch
    rw [rise_eq (val a l) r n m l hm 1 hf (Or.inr ⟨by omega, rfl⟩) hhf i hi hv2] at this
    exact this

theorem divide_no (a l n m : Int) (h : (decide (1 ≤ n) && validB m) = false) (w : World) :
    Calls Tryd.prog 18 #[.agg #[.int .i64 a, .int .u64 l], .int .i64 n, .int .i64 m] w fun e w' => e = .returned (.tuple #[.int .i64 0, .int .i64 1]) ∧ Below w.heap.size w w' := by
  by_cases hn : n < 1
  · have hd : decide (n < 1) = true := by simpa using hn
    clear h
    go_enter Tryd.func18, Tryd.ntmps18
    go_wp2_with fail
    go_ret2
    exact ⟨rfl, bal (bref _) _⟩
  · have hd : decide (n < 1) = false := by simpa using hn
    have hv : validB m = false := by
      have : decide (1 ≤ n) = true := by simp; omega
      rw [this, Bool.true_and] at h; exact h
    have V := fun W => valid_any m W
    simp only [hv] at V
    have V := Lib.hid V
    clear h hv
    go_enter Tryd.func18, Tryd.ntmps18
    go_wp2_with fail
    refine (V.out _).mono ?_
    rintro e w1 ⟨rfl, rfl⟩
    go_wp2_with fail
    go_ret2
    exact ⟨rfl, bal (bref _) _⟩

set_option maxRecDepth 100000 in
set_option maxHeartbeats 8000000 in
theorem divide_yes (a l n m : Int) (hh : I64 a) (hl : U64 l) (hn : I64 n) (hn1 : 1 ≤ n) (hm : 1 ≤ m ∧ m ≤ 6) (w : World) (hch : Ch w) :
    Calls Tryd.prog 18 #[.agg #[.int .i64 a, .int .u64 l], .int .i64 n, .int .i64 m] w fun e w' =>
      e = .returned (.tuple #[.int .i64 (toInt (quoI (val a l) n m)), .int .i64 (if isInt (quoI (val a l) n m) then 0 else 6)]) ∧ Below w.heap.size w w' := by
  have hvI := inW_val hh hl
  obtain ⟨k1, k2, k3, k4, k5, _⟩ := div_parts hn1 hn hvI
  have V := fun W => valid_any m W
  have hv : validB m = true := by simp [validB, hm.1, hm.2]
  simp only [hv] at V
  have V := Lib.hid V
  have DIV := fun W => div_any a l n hh hl hn hn1 W
  have hqb := q_bd hn1 hvI
  have hsg := div_neg_iff (v := val a l) hn1
  have hn2 : n ≤ 9223372036854775807 := hn.2
  have hQ : quoI (val a l) n m = if val a l % n = 0 then val a l / n else if upB (decide (val a l < 0)) (oddB (val a l / n)) (val a l % n) n m then val a l / n + 1 else val a l / n := rfl
  obtain ⟨vn, hvn⟩ : ∃ b, decide (val a l < 0) = b := ⟨_, rfl⟩
  obtain ⟨q, hq⟩ : ∃ q, val a l / n = q := ⟨_, rfl⟩
  obtain ⟨r, hr⟩ : ∃ r, val a l % n = r := ⟨_, rfl⟩
  obtain ⟨QQ, hQQ⟩ : ∃ x, quoI (val a l) n m = x := ⟨_, rfl⟩
  have hqneg : decide (q < 0) = vn := by rw [← hvn, ← hq]; exact decide_eq_decide.2 hsg
  rw [hQQ, hvn, hq, hr] at hQ
  rw [hQQ]
  rw [hq] at k1 hqb
  rw [hr] at k2 k3 hqb
  simp only [hq, hr] at DIV
  have DIV := Lib.hid DIV
  have hqe : val (wH q) (wL q) = q := val_w k1
  have hcl : ¬ n < 1 := by omega
  clear hvn hq hr hQQ hsg k4 k5 hv hvI
  by_cases hr0 : r = 0
  · subst hr0
    rw [if_pos rfl] at hQ
    have INT := fun W => int_any (wH q) (wL q) (wH_I64 _) (wL_U64 _) W
    rw [hqe] at INT
    have hQs := hQ.symm
    clear hQ
    subst hQs
    clear hqb hqe k1 k2 k3 hqneg
    cases hi : isInt q
    all_goals
      simp only [hi] at INT
      have INT := Lib.hid INT
      have HI := Lib.hid hi
      clear hi
      go_enter Tryd.func18, Tryd.ntmps18
      go_wp2_with fail
      refine (V.out _).mono ?_
      rintro e w1 ⟨rfl, rfl⟩
      go_wp2_with fail
      refine (DIV.out _).mono ?_
      rintro e w2 ⟨rfl, q2⟩
      have Z2 : Below w.heap.size w (w2.alloc (.cells #[.int .i64 (wH q), .int .u64 (wL q)] 24)) := bal (btr (bal (bref w) _) q2) _
      have X2 := Own.new w2 (.int .i64 (wH q)) (.int .u64 (wL q)) 24
      clear q2
      obtain ⟨x0, x1, _, _⟩ := X2
      go_wp2_with fail
      refine (INT.out _).mono ?_
      rintro e w3 ⟨rfl, q3⟩
      have Z3 := btr Z2 q3
      go_wp2_with fail
      go_ret2
      first
        | exact ⟨rfl, Z3⟩
        | exact ⟨by have h := HI.out; unfold isInt at h; simp only [toInt, HI.out]; rfl, Z3⟩
  · rw [if_neg hr0] at hQ
    have hrr : (r == 0) = false := by rw [beq_eq_false_iff_ne]; exact hr0
    have hrn : (r != 0) = true := by rw [bne_iff_ne]; exact hr0
    have hr1 : 1 ≤ r := by omega
    have RISE := fun W hC => rise_any (wH q) (wL q) r n m (wL_U64 _) hr1 k3 hn2 hm W hC
    simp only [hqe, hqneg] at RISE
    obtain ⟨d, hd⟩ : ∃ d : Int, (if upB vn (oddB q) r n m then (1 : Int) else 0) = d := ⟨_, rfl⟩
    have hd01 : d = 0 ∨ d = 1 := by rw [← hd]; split <;> simp
    have hQd : QQ = q + d := by rw [hQ, ← hd]; split <;> omega
    simp only [hd] at RISE
    have hqd : inW (q + d) = true := by
      rcases hd01 with h | h
      · rw [h, Int.add_zero]; exact k1
      · rw [h]; exact hqb hr0
    have hdI : I64 d := by unfold I64; omega
    have hde : val (wH d) (wL d) = d := val_w (inW_I64 hdI)
    have ADD := fun W => add_x (wH q) (wL q) (wH d) (wL d) (wH_I64 _) (wL_U64 _) (wH_I64 _) (wL_U64 _) W
    simp only [hqe, hde, wE_in hqd] at ADD
    have hqde : val (wH (q + d)) (wL (q + d)) = q + d := val_w hqd
    have INT := fun W => int_any (wH (q + d)) (wL (q + d)) (wH_I64 _) (wL_U64 _) W
    rw [hqde] at INT
    subst hQd
    have RISE := Lib.hid RISE; have ADD := Lib.hid ADD
    clear hQ hqb hqe k1 k2 hqneg hd hqd hde hqde hr0 k3 hn2
    obtain ⟨TT, hTT⟩ : ∃ t, toInt (q + d) = t := ⟨_, rfl⟩
    obtain ⟨EE, hEE⟩ : ∃ t : Int, (if isInt (q + d) = true then 0 else 6) = t := ⟨_, rfl⟩
    obtain ⟨FF, hFF⟩ : ∃ t, isInt (q + d) = t := ⟨_, rfl⟩
    rw [hTT, hEE]
    simp only [hTT, hFF] at INT
    rw [hFF] at hEE
    have hTF : FF = false → TT = 0 := by intro h; rw [← hTT]; unfold toInt; rw [hFF, h]; rfl
    have HEE := Lib.hid hEE; have HTF := Lib.hid hTF
    clear hTT hEE hFF hTF
    go_enter Tryd.func18, Tryd.ntmps18
    go_wp2_with fail
    refine (V.out _).mono ?_
    rintro e w1 ⟨rfl, rfl⟩
    go_wp2_with fail
    refine (DIV.out _).mono ?_
    rintro e w2 ⟨rfl, q2⟩
    have Z2 : Below w.heap.size w (w2.alloc (.cells #[.int .i64 (wH q), .int .u64 (wL q)] 24)) := bal (btr (bal (bref w) _) q2) _
    have X2 := Own.new w2 (.int .i64 (wH q)) (.int .u64 (wL q)) 24
    have sw : w.heap.size < w2.heap.size := by have := q2.size; simp at this; omega
    clear q2
    go_wp2_with fail
    obtain ⟨WB, hWB⟩ : ∃ X, w2.alloc (.cells #[.int .i64 (wH q), .int .u64 (wL q)] 24) = X := ⟨_, rfl⟩
    rw [hWB] at X2 Z2 ⊢
    clear hWB
    generalize w2.heap.size = b at *
    have XX := X2
    obtain ⟨x0, x1, x2, x3⟩ := XX
    have CB : Ch WB.drew := hch.keep (bdr Z2)
    go_cut [29] (fun _ wx => Own wx b (.int .i64 (wH (q + d))) (.int .u64 (wL (q + d))) ∧ Below w.heap.size w wx)
    case first =>
      go_region_with (first
        | (go_at_call 52; refine (RISE.out _ CB).mono ?_; rintro e W1 ⟨rfl, hk⟩; have X1 : Own W1 b (.int .i64 (wH q)) (.int .u64 (wL q)) := Own.keep X2.dr hk; have ZA : Below w.heap.size w W1 := btr (bdr Z2) hk; have s0 := X1.lt; obtain ⟨s1, s2, s3, s4, t0, t1, t2, t3⟩ := sz8 s0; have XY := X1; obtain ⟨y0, y1, y2, y3⟩ := XY)
        | (go_at_call 16; refine (of_x d hdI _).mono ?_; rintro e W1 ⟨rfl, rfl⟩)
        | (go_at_call 15; refine (ADD.out _).mono ?_; rintro e W1 ⟨rfl, rfl⟩))
      all_goals (go_wp2_with fail; go_meet; refine ⟨?_, ?_⟩)
      all_goals (try (repeat (first | exact X1.put _ _ | refine Own.al ?_ _ | refine Own.dr ?_)))
      all_goals (try (repeat (first | exact ZA | refine bdr ?_ | refine bal ?_ _ | refine bset ?_ (by dsimp only; omega) _)))
      all_goals (try (refine ⟨?_, ?_, ?_, ?_⟩ <;> (simp [go_sem, y0, y1, y2, y3, s0]; done)))
    case rest =>
      obtain ⟨X5, Z5⟩ := hcut
      clear X2 Z2 x0 x1 x2 x3 CB RISE ADD DIV V
      obtain ⟨x0, x1, _, _⟩ := X5
      cases FF
      all_goals
        have INT := Lib.hid INT
        first | (have E1 : (0 : Int) = EE := HEE.out; subst E1) | (have E1 : (6 : Int) = EE := HEE.out; subst E1)
        first | (have HT0 : Hid (TT = 0) := Lib.hid (HTF.out rfl); clear HTF) | (have HT0 : Hid True := Lib.hid trivial; clear HTF)
        go_wp2_with fail
        refine (INT.out _).mono ?_
        rintro e w3 ⟨rfl, q3⟩
        have Z6 := btr Z5 q3
        go_wp2_with fail
        go_ret2
        first
          | exact ⟨rfl, Z6⟩
          | exact ⟨by rw [HT0.out]; rfl, Z6⟩

theorem rdivide_of (a l n m : Int) (hh : I64 a) (hl : U64 l) (hn : I64 n) (w : World) (hch : Ch w) :
    Calls Tryd.prog 18 #[.agg #[.int .i64 a, .int .u64 l], .int .i64 n, .int .i64 m] w fun e w' =>
      e = .returned (.tuple #[.int .i64 (dQ (val a l) n m), .int .i64 (dE (val a l) n m)]) ∧ Below w.heap.size w w' := by
  cases h : (decide (1 ≤ n) && validB m)
  · have e1 : dQ (val a l) n m = 0 := by unfold dQ; rw [h]; rfl
    have e2 : dE (val a l) n m = 1 := by unfold dE; rw [h]; rfl
    rw [e1, e2]
    exact divide_no a l n m h w
  · have e1 : dQ (val a l) n m = toInt (quoI (val a l) n m) := by unfold dQ; rw [h]; rfl
    have e2 : dE (val a l) n m = if isInt (quoI (val a l) n m) then 0 else 6 := by unfold dE; rw [h]; rfl
    rw [e1, e2]
    rw [Bool.and_eq_true] at h
    exact divide_yes a l n m hh hl hn (by simpa using h.1) (by simpa [validB] using h.2) w hch
end Go.Proofs.YtjhfbnndapopgaaDoor
