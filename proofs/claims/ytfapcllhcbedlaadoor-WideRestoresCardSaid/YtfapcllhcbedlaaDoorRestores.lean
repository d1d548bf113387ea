/-
  The walk of the law WideRestores.
-/
import Derived.Test.YtfapcllhcbedlaaDoorLive
import Derived.Deep.RegionWith
import Derived.Deep.RegionHeld3
namespace Go.Proofs.YtfapcllhcbedlaaDoor
open Go Go.RowKit WM

theorem keep2 {w W W1 : World} {n : Nat} {a b : Value} (h : W.cell? ⟨n, 0, none⟩ = some a ∧ W.cell? ⟨n, 1, none⟩ = some b ∧ Tb W ∧ Below w.heap.size w W) (hk : Below W.heap.size W W1) :
    W1.cell? ⟨n, 0, none⟩ = some a ∧ W1.cell? ⟨n, 1, none⟩ = some b ∧ Tb W1 ∧ Below w.heap.size w W1 :=
  ⟨keepc hk h.1, keepc hk h.2.1, h.2.2.1.keep hk, btr h.2.2.2 hk⟩
theorem toInt_I64 (v : Int) : I64 (toInt v) := by
  unfold toInt I64
  split
  · rename_i h; simpa only [isInt, decide_eq_true_eq] using h
  · omega
theorem mul_in {a b : Int} (ha : I64 a) (hb : I64 b) : inW (a * b) = true := by
  rw [inW_iff]
  unfold I64 at *
  have h1 : absW (a * b) = absW a * absW b := (absW_mul a b).symm
  have h2 : absW a * absW b ≤ 9223372036854775808 * 9223372036854775808 :=
    Int.mul_le_mul (by unfold absW; split <;> omega) (by unfold absW; split <;> omega) (absW_nonneg _) (by decide)
  rw [← h1] at h2
  have h4 := absW_nonneg (a * b)
  have h3 : absW (a * b) = a * b ∨ absW (a * b) = -(a * b) := by unfold absW; split <;> simp
  generalize a * b = p at *
  omega

set_option maxRecDepth 100000 in
set_option maxHeartbeats 8000000 in
theorem restores_any (ha la hb lb n : Int) (h1 : I64 ha) (h2 : U64 la) (h3 : I64 hb) (h4 : U64 lb) (h5 : I64 n) (w : World) (ht : Tb w) :
    Calls Tryd.prog 9 #[.agg #[.int .i64 ha, .int .u64 la], .agg #[.int .i64 hb, .int .u64 lb], .int .i64 n] w fun e w' => e = .returned (.bool true) ∧ Below w.heap.size w w' := by
  obtain ⟨s, hs⟩ : ∃ s, val ha la + val hb lb = s := ⟨_, rfl⟩
  obtain ⟨k, hk⟩ : ∃ k, toInt (val ha la) = k := ⟨_, rfl⟩
  have hkI : I64 k := by rw [← hk]; exact toInt_I64 _
  have ADD := fun W => add_any ha la hb lb h1 h2 h3 h4 W
  have ADD2 := fun W => add_any hb lb ha la h3 h4 h1 h2 W
  simp only [Int.add_comm (val hb lb), hs] at ADD ADD2
  have INT := fun W => int_any ha la h1 h2 W
  simp only [hk] at INT
  have SC := fun W => scale_any (wH n) (wL n) k (wH_I64 n) (wL_U64 n) hkI W
  have hin : inW (n * k) = true := mul_in h5 hkI
  simp only [val_w (inW_I64 h5), wE_in hin] at SC
  have SC := Lib.hid SC
  have M1 := Lib.hid (fun W => mul_any n k h5 hkI W)
  have M2 := fun W => mul_any k n hkI h5 W
  simp only [Int.mul_comm k n] at M2
  have M2 := Lib.hid M2
  cases hi : inW s
  · simp only [wH_out hi, wL_out hi, wE_out hi] at ADD ADD2
    have ADD := Lib.hid ADD; have ADD2 := Lib.hid ADD2
    have SUB := fun W => sub_any 0 0 hb lb (by unfold I64; omega) (by unfold U64; omega) h3 h4 W
    obtain ⟨DH, hDH⟩ : ∃ x, wH (val 0 0 - val hb lb) = x := ⟨_, rfl⟩
    obtain ⟨DL, hDL⟩ : ∃ x, wL (val 0 0 - val hb lb) = x := ⟨_, rfl⟩
    obtain ⟨DE, hDE⟩ : ∃ x, wE (val 0 0 - val hb lb) = x := ⟨_, rfl⟩
    simp only [hDH, hDL, hDE] at SUB
    have SUB := Lib.hid SUB
    cases hii : isInt (val ha la)
    · simp only [hii] at INT
      have INT := Lib.hid INT
      clear hs hk hi hin hDH hDL hDE hii
      go_enter Tryd.func9, Tryd.ntmps9
      have A0 := Own.al (Own.new w (.int .i64 ha) (.int .u64 la) 24) (.cells #[.int .i64 hb, .int .u64 lb] 24)
      have B0 := Own.new2 w (.cells #[.int .i64 ha, .int .u64 la] 24) (.int .i64 hb) (.int .u64 lb) 24
      go_wp2_with fail
      refine (ADD.out _).mono ?_
      rintro e w1 ⟨rfl, q1⟩
      have A1 := (A0.keep q1).al (.cells #[.int .i64 0, .int .u64 0] 24)
      have B1 := (B0.keep q1).al (.cells #[.int .i64 0, .int .u64 0] 24)
      have S1 := Own.new w1 (.int .i64 0) (.int .u64 0) 24
      have Z1 := btr (bal (bal (bref w) _) _) q1
      clear A0 B0 q1
      have A1x := A1; have B1x := B1; have S1x := S1
      obtain ⟨f1, f2, _, _⟩ := A1x; obtain ⟨f3, f4, _, _⟩ := B1x; obtain ⟨f5, f6, _, _⟩ := S1x
      go_wp2_with fail
      clear f1 f2 f3 f4 f5 f6
      refine (SUB.out _).mono ?_
      rintro e w2 ⟨rfl, q2⟩
      have A2 := (A1.keep q2).al (.cells #[.int .i64 DH, .int .u64 DL] 24)
      have B2 := (B1.keep q2).al (.cells #[.int .i64 DH, .int .u64 DL] 24)
      have S2 := (S1.keep q2).al (.cells #[.int .i64 DH, .int .u64 DL] 24)
      have D2 := Own.new w2 (.int .i64 DH) (.int .u64 DL) 24
      have Z2 := btr (bal Z1 _) q2
      clear A1 B1 S1 Z1 q2
      have A2x := A2; have B2x := B2; have D2x := D2
      obtain ⟨f1, f2, _, _⟩ := A2x; obtain ⟨f3, f4, _, _⟩ := B2x; obtain ⟨f5, f6, _, _⟩ := D2x
      go_wp2_with fail
      clear f1 f2 f3 f4 f5 f6 D2
      refine (ADD2.out _).mono ?_
      rintro e w3 ⟨rfl, q3⟩
      have A3 := (A2.keep q3).al (.cells #[.int .i64 0, .int .u64 0] 24)
      have S3 := (S2.keep q3).al (.cells #[.int .i64 0, .int .u64 0] 24)
      have T3 := Own.new w3 (.int .i64 0) (.int .u64 0) 24
      have Z3 := btr (bal Z2 _) q3
      clear A2 B2 S2 Z2 q3
      have A3x := A3
      obtain ⟨f1, f2, _, _⟩ := A3x
      go_wp2_with fail
      clear f1 f2
      refine (INT.out _).mono ?_
      rintro e w4 ⟨rfl, q4⟩
      have S4 := S3.keep q4
      have T4 := T3.keep q4
      have Z4 := btr (bal Z3 _) q4
      clear A3 S3 T3 Z3 q4
      obtain ⟨f1, f2, _, _⟩ := S4; obtain ⟨f3, f4, _, _⟩ := T4
      go_wp2_with fail
      clear f1 f2 f3 f4
      refine (of_any n h5 _).mono ?_
      rintro e w5 ⟨rfl, q5⟩
      have Z5 := btr Z4 q5
      clear Z4 q5
      go_wp2_with fail
      refine (SC.out _).mono ?_
      rintro e w6 ⟨rfl, q6⟩
      have X6 := Own.new w6 (.int .i64 (wH (n * k))) (.int .u64 (wL (n * k))) 24
      have Z6 := bal (btr Z5 q6) (.cells #[.int .i64 (wH (n * k)), .int .u64 (wL (n * k))] 24)
      clear Z5 q6
      obtain ⟨x0, x1, _, _⟩ := X6
      have T6 := ht.keep Z6
      go_wp2_with fail
      obtain ⟨WX, hWX⟩ : ∃ X, w6.alloc (.cells #[.int .i64 (wH (n * k)), .int .u64 (wL (n * k))] 24) = X := ⟨_, rfl⟩
      rw [hWX] at x0 x1 Z6 T6 ⊢
      clear hWX
      generalize w6.heap.size = n6 at *
      refine wp_region_held_drew (S := fun _ => True) (by kernel_rfl) trivial (fun hHeld => ?_)
      refine wpAnyH_take (i := 0) (oi := _) (v := .bool false) rfl (by kernel_rfl) (by kernel_rfl) (by kernel_rfl) (fun _ _ _ h => h) (Or.inl ⟨?_, ?_⟩) hHeld ?_
      · rfl
      · (intro w hSw; go_simp)
      (try simp only [Act.put, List.getElem_toArray, List.getElem_cons_zero, List.getElem_cons_succ, List.setIfInBounds_toArray, List.set_cons_zero, List.set_cons_succ])
      refine wpAnyH_take (i := 1) (oi := _) (v := .bool true) rfl (by kernel_rfl) (by kernel_rfl) (by kernel_rfl) (fun _ _ _ h => h) (Or.inl ⟨?_, ?_⟩) hHeld ?_
      · rfl
      · (intro w hSw; go_simp)
      (try simp only [Act.put, List.getElem_toArray, List.getElem_cons_zero, List.getElem_cons_succ, List.setIfInBounds_toArray, List.set_cons_zero, List.set_cons_succ])
      refine wpAnyH_take (i := 2) (oi := _) (v := .bool true) rfl (by kernel_rfl) (by kernel_rfl) (by kernel_rfl) (fun _ _ _ h => h) (Or.inl ⟨?_, ?_⟩) hHeld ?_
      · rfl
      · (intro w hSw; go_simp)
      (try simp only [Act.put, List.getElem_toArray, List.getElem_cons_zero, List.getElem_cons_succ, List.setIfInBounds_toArray, List.set_cons_zero, List.set_cons_succ])
      refine wpAnyH_take (i := 3) (oi := _) (v := undef) rfl (by kernel_rfl) (by kernel_rfl) (by kernel_rfl) (fun _ _ _ h => h) (Or.inr ⟨?_, rfl⟩) hHeld ?_
      · rfl
      (try simp only [Act.put, List.getElem_toArray, List.getElem_cons_zero, List.getElem_cons_succ, List.setIfInBounds_toArray, List.set_cons_zero, List.set_cons_succ])
      refine wpAnyH_take (i := 4) (oi := _) (v := undef) rfl (by kernel_rfl) (by kernel_rfl) (by kernel_rfl) (fun _ _ _ h => h) (Or.inr ⟨?_, rfl⟩) hHeld ?_
      · rfl
      (try simp only [Act.put, List.getElem_toArray, List.getElem_cons_zero, List.getElem_cons_succ, List.setIfInBounds_toArray, List.set_cons_zero, List.set_cons_succ])
      refine wpAnyH_take (i := 5) (oi := _) (v := undef) rfl (by kernel_rfl) (by kernel_rfl) (by kernel_rfl) (fun _ _ _ h => h) (Or.inr ⟨?_, rfl⟩) hHeld ?_
      · rfl
      (try simp only [Act.put, List.getElem_toArray, List.getElem_cons_zero, List.getElem_cons_succ, List.setIfInBounds_toArray, List.set_cons_zero, List.set_cons_succ])
      refine wpAnyH_take (i := 6) (oi := _) (v := undef) rfl (by kernel_rfl) (by kernel_rfl) (by kernel_rfl) (fun _ _ _ h => h) (Or.inr ⟨?_, rfl⟩) hHeld ?_
      · rfl
      (try simp only [Act.put, List.getElem_toArray, List.getElem_cons_zero, List.getElem_cons_succ, List.setIfInBounds_toArray, List.set_cons_zero, List.set_cons_succ])
      refine wpAnyH_take (i := 7) (oi := _) (v := undef) rfl (by kernel_rfl) (by kernel_rfl) (by kernel_rfl) (fun _ _ _ h => h) (Or.inr ⟨?_, rfl⟩) hHeld ?_
      · rfl
      (try simp only [Act.put, List.getElem_toArray, List.getElem_cons_zero, List.getElem_cons_succ, List.setIfInBounds_toArray, List.set_cons_zero, List.set_cons_succ])
      refine wpAnyH_take (i := 8) (oi := _) (v := undef) rfl (by kernel_rfl) (by kernel_rfl) (by kernel_rfl) (fun _ _ _ h => h) (Or.inr ⟨?_, rfl⟩) hHeld ?_
      · rfl
      (try simp only [Act.put, List.getElem_toArray, List.getElem_cons_zero, List.getElem_cons_succ, List.setIfInBounds_toArray, List.set_cons_zero, List.set_cons_succ])
      refine wpAnyH_take (i := 9) (oi := _) (v := undef) rfl (by kernel_rfl) (by kernel_rfl) (by kernel_rfl) (fun _ _ _ h => h) (Or.inr ⟨?_, rfl⟩) hHeld ?_
      · rfl
      (try simp only [Act.put, List.getElem_toArray, List.getElem_cons_zero, List.getElem_cons_succ, List.setIfInBounds_toArray, List.set_cons_zero, List.set_cons_succ])
      refine wpAnyH_take (i := 10) (oi := _) (v := undef) rfl (by kernel_rfl) (by kernel_rfl) (by kernel_rfl) (fun _ _ _ h => h) (Or.inr ⟨?_, rfl⟩) hHeld ?_
      · rfl
      (try simp only [Act.put, List.getElem_toArray, List.getElem_cons_zero, List.getElem_cons_succ, List.setIfInBounds_toArray, List.set_cons_zero, List.set_cons_succ])
      refine wpAnyH_take (i := 11) (oi := _) (v := undef) rfl (by kernel_rfl) (by kernel_rfl) (by kernel_rfl) (fun _ _ _ h => h) (Or.inr ⟨?_, rfl⟩) hHeld ?_
      · rfl
      (try simp only [Act.put, List.getElem_toArray, List.getElem_cons_zero, List.getElem_cons_succ, List.setIfInBounds_toArray, List.set_cons_zero, List.set_cons_succ])
      refine wpAnyH_take (i := 12) (oi := _) (v := undef) rfl (by kernel_rfl) (by kernel_rfl) (by kernel_rfl) (fun _ _ _ h => h) (Or.inr ⟨?_, rfl⟩) hHeld ?_
      · rfl
      (try simp only [Act.put, List.getElem_toArray, List.getElem_cons_zero, List.getElem_cons_succ, List.setIfInBounds_toArray, List.set_cons_zero, List.set_cons_succ])
      refine wpAnyH_take (i := 13) (oi := _) (v := undef) rfl (by kernel_rfl) (by kernel_rfl) (by kernel_rfl) (fun _ _ _ h => h) (Or.inr ⟨?_, rfl⟩) hHeld ?_
      · rfl
      (try simp only [Act.put, List.getElem_toArray, List.getElem_cons_zero, List.getElem_cons_succ, List.setIfInBounds_toArray, List.set_cons_zero, List.set_cons_succ])
      refine wpAnyH_take (i := 14) (oi := _) (v := undef) rfl (by kernel_rfl) (by kernel_rfl) (by kernel_rfl) (fun _ _ _ h => h) (Or.inr ⟨?_, rfl⟩) hHeld ?_
      · rfl
      (try simp only [Act.put, List.getElem_toArray, List.getElem_cons_zero, List.getElem_cons_succ, List.setIfInBounds_toArray, List.set_cons_zero, List.set_cons_succ])
      refine wpAnyH_take (i := 15) (oi := _) (v := undef) rfl (by kernel_rfl) (by kernel_rfl) (by kernel_rfl) (fun _ _ _ h => h) (Or.inr ⟨?_, rfl⟩) hHeld ?_
      · rfl
      (try simp only [Act.put, List.getElem_toArray, List.getElem_cons_zero, List.getElem_cons_succ, List.setIfInBounds_toArray, List.set_cons_zero, List.set_cons_succ])
      refine wpAnyH_take (i := 16) (oi := _) (v := undef) rfl (by kernel_rfl) (by kernel_rfl) (by kernel_rfl) (fun _ _ _ h => h) (Or.inr ⟨?_, rfl⟩) hHeld ?_
      · rfl
      (try simp only [Act.put, List.getElem_toArray, List.getElem_cons_zero, List.getElem_cons_succ, List.setIfInBounds_toArray, List.set_cons_zero, List.set_cons_succ])
      refine wpAnyH_take (i := 17) (oi := _) (v := undef) rfl (by kernel_rfl) (by kernel_rfl) (by kernel_rfl) (fun _ _ _ h => h) (Or.inr ⟨?_, rfl⟩) hHeld ?_
      · rfl
      (try simp only [Act.put, List.getElem_toArray, List.getElem_cons_zero, List.getElem_cons_succ, List.setIfInBounds_toArray, List.set_cons_zero, List.set_cons_succ])
      refine wpAnyH_take (i := 18) (oi := _) (v := undef) rfl (by kernel_rfl) (by kernel_rfl) (by kernel_rfl) (fun _ _ _ h => h) (Or.inr ⟨?_, rfl⟩) hHeld ?_
      · rfl
      (try simp only [Act.put, List.getElem_toArray, List.getElem_cons_zero, List.getElem_cons_succ, List.setIfInBounds_toArray, List.set_cons_zero, List.set_cons_succ])
      refine wpAnyH_take (i := 19) (oi := _) (v := .bool true) rfl (by kernel_rfl) (by kernel_rfl) (by kernel_rfl) (fun _ _ _ h => h) (Or.inl ⟨?_, ?_⟩) hHeld ?_
      · rfl
      · (intro w hSw; go_simp)
      (try simp only [Act.put, List.getElem_toArray, List.getElem_cons_zero, List.getElem_cons_succ, List.setIfInBounds_toArray, List.set_cons_zero, List.set_cons_succ])
      refine wpAnyH_take (i := 20) (oi := _) (v := .bool true) rfl (by kernel_rfl) (by kernel_rfl) (by kernel_rfl) (fun _ _ _ h => h) (Or.inl ⟨?_, ?_⟩) hHeld ?_
      · rfl
      · (intro w hSw; go_simp)
      (try simp only [Act.put, List.getElem_toArray, List.getElem_cons_zero, List.getElem_cons_succ, List.setIfInBounds_toArray, List.set_cons_zero, List.set_cons_succ])
      refine wpAnyH_ready (rs := [21]) (by kernel_rfl) (by simp) ?_
      refine AllReadyH.cons (o := _) rfl (fun K hK => ?_) AllReadyH.nil
      go_simp
      refine (live_any _ (ht.keep (bdr Z6))).mono ?_
      rintro e W1 ⟨rfl, hk⟩
      try go_wp2_with fail
      refine hK.out _ _ trivial (fun hHeld2 => ?_)
      clear hK K
      (try simp only [Act.put, List.getElem_toArray, List.getElem_cons_zero, List.getElem_cons_succ, List.setIfInBounds_toArray, List.set_cons_zero, List.set_cons_succ])
      refine wpAnyH_take (i := 22) (oi := _) (v := .bool true) rfl (by kernel_rfl) (by kernel_rfl) (by kernel_rfl) (fun _ _ _ h => h) (Or.inl ⟨?_, ?_⟩) hHeld2 ?_
      · rfl
      · (intro w hSw; go_simp)
      (try simp only [Act.put, List.getElem_toArray, List.getElem_cons_zero, List.getElem_cons_succ, List.setIfInBounds_toArray, List.set_cons_zero, List.set_cons_succ])
      refine wpAnyH_take (i := 23) (oi := _) (v := .bool true) rfl (by kernel_rfl) (by kernel_rfl) (by kernel_rfl) (fun _ _ _ h => h) (Or.inl ⟨?_, ?_⟩) hHeld2 ?_
      · rfl
      · (intro w hSw; go_simp)
      (try simp only [Act.put, List.getElem_toArray, List.getElem_cons_zero, List.getElem_cons_succ, List.setIfInBounds_toArray, List.set_cons_zero, List.set_cons_succ])
      refine wpAnyH_done (by kernel_rfl) ?_ _
      go_wp2_with fail
      go_ret
      exact ⟨rfl, btr (bdr Z6) hk⟩
    · simp only [hii] at INT
      have INT := Lib.hid INT
      clear hs hk hi hin hDH hDL hDE hii
      go_enter Tryd.func9, Tryd.ntmps9
      have A0 := Own.al (Own.new w (.int .i64 ha) (.int .u64 la) 24) (.cells #[.int .i64 hb, .int .u64 lb] 24)
      have B0 := Own.new2 w (.cells #[.int .i64 ha, .int .u64 la] 24) (.int .i64 hb) (.int .u64 lb) 24
      go_wp2_with fail
      refine (ADD.out _).mono ?_
      rintro e w1 ⟨rfl, q1⟩
      have A1 := (A0.keep q1).al (.cells #[.int .i64 0, .int .u64 0] 24)
      have B1 := (B0.keep q1).al (.cells #[.int .i64 0, .int .u64 0] 24)
      have S1 := Own.new w1 (.int .i64 0) (.int .u64 0) 24
      have Z1 := btr (bal (bal (bref w) _) _) q1
      clear A0 B0 q1
      have A1x := A1; have B1x := B1; have S1x := S1
      obtain ⟨f1, f2, _, _⟩ := A1x; obtain ⟨f3, f4, _, _⟩ := B1x; obtain ⟨f5, f6, _, _⟩ := S1x
      go_wp2_with fail
      clear f1 f2 f3 f4 f5 f6
      refine (SUB.out _).mono ?_
      rintro e w2 ⟨rfl, q2⟩
      have A2 := (A1.keep q2).al (.cells #[.int .i64 DH, .int .u64 DL] 24)
      have B2 := (B1.keep q2).al (.cells #[.int .i64 DH, .int .u64 DL] 24)
      have S2 := (S1.keep q2).al (.cells #[.int .i64 DH, .int .u64 DL] 24)
      have D2 := Own.new w2 (.int .i64 DH) (.int .u64 DL) 24
      have Z2 := btr (bal Z1 _) q2
      clear A1 B1 S1 Z1 q2
      have A2x := A2; have B2x := B2; have D2x := D2
      obtain ⟨f1, f2, _, _⟩ := A2x; obtain ⟨f3, f4, _, _⟩ := B2x; obtain ⟨f5, f6, _, _⟩ := D2x
      go_wp2_with fail
      clear f1 f2 f3 f4 f5 f6 D2
      refine (ADD2.out _).mono ?_
      rintro e w3 ⟨rfl, q3⟩
      have A3 := (A2.keep q3).al (.cells #[.int .i64 0, .int .u64 0] 24)
      have S3 := (S2.keep q3).al (.cells #[.int .i64 0, .int .u64 0] 24)
      have T3 := Own.new w3 (.int .i64 0) (.int .u64 0) 24
      have Z3 := btr (bal Z2 _) q3
      clear A2 B2 S2 Z2 q3
      have A3x := A3
      obtain ⟨f1, f2, _, _⟩ := A3x
      go_wp2_with fail
      clear f1 f2
      refine (INT.out _).mono ?_
      rintro e w4 ⟨rfl, q4⟩
      have S4 := S3.keep q4
      have T4 := T3.keep q4
      have Z4 := btr (bal Z3 _) q4
      clear A3 S3 T3 Z3 q4
      obtain ⟨f1, f2, _, _⟩ := S4; obtain ⟨f3, f4, _, _⟩ := T4
      go_wp2_with fail
      clear f1 f2 f3 f4
      refine (of_any n h5 _).mono ?_
      rintro e w5 ⟨rfl, q5⟩
      have Z5 := btr Z4 q5
      clear Z4 q5
      go_wp2_with fail
      refine (SC.out _).mono ?_
      rintro e w6 ⟨rfl, q6⟩
      have X6 := Own.new w6 (.int .i64 (wH (n * k))) (.int .u64 (wL (n * k))) 24
      have Z6 := bal (btr Z5 q6) (.cells #[.int .i64 (wH (n * k)), .int .u64 (wL (n * k))] 24)
      clear Z5 q6
      obtain ⟨x0, x1, _, _⟩ := X6
      have T6 := ht.keep Z6
      go_wp2_with fail
      obtain ⟨WX, hWX⟩ : ∃ X, w6.alloc (.cells #[.int .i64 (wH (n * k)), .int .u64 (wL (n * k))] 24) = X := ⟨_, rfl⟩
      rw [hWX] at x0 x1 Z6 T6 ⊢
      clear hWX
      generalize w6.heap.size = n6 at *
      have K := And.intro (show WX.drew.cell? ⟨n6, 0, none⟩ = _ from x0) (And.intro (show WX.drew.cell? ⟨n6, 1, none⟩ = _ from x1) (And.intro (ht.keep (bdr Z6)) (bdr Z6)))
      go_region_held3 (fun W => W.cell? ⟨n6, 0, none⟩ = some (.int .i64 (wH (n * k))) ∧ W.cell? ⟨n6, 1, none⟩ = some (.int .u64 (wL (n * k))) ∧ Tb W ∧ Below w.heap.size w W)
        (first | exact K | exact keep2 (by assumption) hk | (go_split_ands; exact keep2 ⟨by assumption, by assumption, by assumption, by assumption⟩ hk))
        (first
          | (go_at_call_of 29 (#[Value.int .i64 n, Value.int .i64 k]); refine (M1.out _).mono ?_; rintro e W1 ⟨rfl, hk⟩)
          | (go_at_call_of 29 (#[Value.int .i64 k, Value.int .i64 n]); refine (M2.out _).mono ?_; rintro e W1 ⟨rfl, hk⟩)
          | (go_at_call 24; (try go_split_ands); refine (live_any _ ?_).mono ?_; (first | assumption | exact K.2.2.1); rintro e W1 ⟨rfl, hk⟩))
      go_wp2_with fail
      (try go_split_ands)
      go_ret
      exact ⟨rfl, by first | assumption | exact btr (by assumption) hk | exact btr K.2.2.2 hk⟩
  · simp only [wE_in hi] at ADD ADD2
    have ADD := Lib.hid ADD; have ADD2 := Lib.hid ADD2
    have SUB := fun W => sub_any (wH s) (wL s) hb lb (wH_I64 s) (wL_U64 s) h3 h4 W
    have e1 : s - val hb lb = val ha la := by omega
    simp only [val_w hi, e1, wH_val h1 h2, wL_val h1 h2, wE_in (inW_val h1 h2)] at SUB
    have SUB := Lib.hid SUB
    clear e1
    cases hii : isInt (val ha la)
    · simp only [hii] at INT
      have INT := Lib.hid INT
      clear hs hk hi hin hii
      go_enter Tryd.func9, Tryd.ntmps9
      have A0 := Own.al (Own.new w (.int .i64 ha) (.int .u64 la) 24) (.cells #[.int .i64 hb, .int .u64 lb] 24)
      have B0 := Own.new2 w (.cells #[.int .i64 ha, .int .u64 la] 24) (.int .i64 hb) (.int .u64 lb) 24
      go_wp2_with fail
      refine (ADD.out _).mono ?_
      rintro e w1 ⟨rfl, q1⟩
      have A1 := (A0.keep q1).al (.cells #[.int .i64 (wH s), .int .u64 (wL s)] 24)
      have B1 := (B0.keep q1).al (.cells #[.int .i64 (wH s), .int .u64 (wL s)] 24)
      have S1 := Own.new w1 (.int .i64 (wH s)) (.int .u64 (wL s)) 24
      have Z1 := btr (bal (bal (bref w) _) _) q1
      clear A0 B0 q1
      have A1x := A1; have B1x := B1; have S1x := S1
      obtain ⟨f1, f2, _, _⟩ := A1x; obtain ⟨f3, f4, _, _⟩ := B1x; obtain ⟨f5, f6, _, _⟩ := S1x
      go_wp2_with fail
      clear f1 f2 f3 f4 f5 f6
      refine (SUB.out _).mono ?_
      rintro e w2 ⟨rfl, q2⟩
      have A2 := (A1.keep q2).al (.cells #[.int .i64 ha, .int .u64 la] 24)
      have B2 := (B1.keep q2).al (.cells #[.int .i64 ha, .int .u64 la] 24)
      have S2 := (S1.keep q2).al (.cells #[.int .i64 ha, .int .u64 la] 24)
      have D2 := Own.new w2 (.int .i64 ha) (.int .u64 la) 24
      have Z2 := btr (bal Z1 _) q2
      clear A1 B1 S1 Z1 q2
      have A2x := A2; have B2x := B2; have D2x := D2
      obtain ⟨f1, f2, _, _⟩ := A2x; obtain ⟨f3, f4, _, _⟩ := B2x; obtain ⟨f5, f6, _, _⟩ := D2x
      go_wp2_with fail
      clear f1 f2 f3 f4 f5 f6 D2
      refine (ADD2.out _).mono ?_
      rintro e w3 ⟨rfl, q3⟩
      have A3 := (A2.keep q3).al (.cells #[.int .i64 (wH s), .int .u64 (wL s)] 24)
      have S3 := (S2.keep q3).al (.cells #[.int .i64 (wH s), .int .u64 (wL s)] 24)
      have T3 := Own.new w3 (.int .i64 (wH s)) (.int .u64 (wL s)) 24
      have Z3 := btr (bal Z2 _) q3
      clear A2 B2 S2 Z2 q3
      have A3x := A3
      obtain ⟨f1, f2, _, _⟩ := A3x
      go_wp2_with fail
      clear f1 f2
      refine (INT.out _).mono ?_
      rintro e w4 ⟨rfl, q4⟩
      have S4 := S3.keep q4
      have T4 := T3.keep q4
      have Z4 := btr (bal Z3 _) q4
      clear A3 S3 T3 Z3 q4
      obtain ⟨f1, f2, _, _⟩ := S4; obtain ⟨f3, f4, _, _⟩ := T4
      go_wp2_with fail
      clear f1 f2 f3 f4
      refine (of_any n h5 _).mono ?_
      rintro e w5 ⟨rfl, q5⟩
      have Z5 := btr Z4 q5
      clear Z4 q5
      go_wp2_with fail
      refine (SC.out _).mono ?_
      rintro e w6 ⟨rfl, q6⟩
      have X6 := Own.new w6 (.int .i64 (wH (n * k))) (.int .u64 (wL (n * k))) 24
      have Z6 := bal (btr Z5 q6) (.cells #[.int .i64 (wH (n * k)), .int .u64 (wL (n * k))] 24)
      clear Z5 q6
      obtain ⟨x0, x1, _, _⟩ := X6
      have T6 := ht.keep Z6
      go_wp2_with fail
      obtain ⟨WX, hWX⟩ : ∃ X, w6.alloc (.cells #[.int .i64 (wH (n * k)), .int .u64 (wL (n * k))] 24) = X := ⟨_, rfl⟩
      rw [hWX] at x0 x1 Z6 T6 ⊢
      clear hWX
      generalize w6.heap.size = n6 at *
      refine wp_region_held_drew (S := fun _ => True) (by kernel_rfl) trivial (fun hHeld => ?_)
      refine wpAnyH_take (i := 0) (oi := _) (v := .bool false) rfl (by kernel_rfl) (by kernel_rfl) (by kernel_rfl) (fun _ _ _ h => h) (Or.inl ⟨?_, ?_⟩) hHeld ?_
      · rfl
      · (intro w hSw; go_simp)
      (try simp only [Act.put, List.getElem_toArray, List.getElem_cons_zero, List.getElem_cons_succ, List.setIfInBounds_toArray, List.set_cons_zero, List.set_cons_succ])
      refine wpAnyH_take (i := 1) (oi := _) (v := .bool true) rfl (by kernel_rfl) (by kernel_rfl) (by kernel_rfl) (fun _ _ _ h => h) (Or.inl ⟨?_, ?_⟩) hHeld ?_
      · rfl
      · (intro w hSw; go_simp)
      (try simp only [Act.put, List.getElem_toArray, List.getElem_cons_zero, List.getElem_cons_succ, List.setIfInBounds_toArray, List.set_cons_zero, List.set_cons_succ])
      refine wpAnyH_take (i := 2) (oi := _) (v := .bool true) rfl (by kernel_rfl) (by kernel_rfl) (by kernel_rfl) (fun _ _ _ h => h) (Or.inl ⟨?_, ?_⟩) hHeld ?_
      · rfl
      · (intro w hSw; go_simp)
      (try simp only [Act.put, List.getElem_toArray, List.getElem_cons_zero, List.getElem_cons_succ, List.setIfInBounds_toArray, List.set_cons_zero, List.set_cons_succ])
      refine wpAnyH_take (i := 3) (oi := _) (v := undef) rfl (by kernel_rfl) (by kernel_rfl) (by kernel_rfl) (fun _ _ _ h => h) (Or.inr ⟨?_, rfl⟩) hHeld ?_
      · rfl
      (try simp only [Act.put, List.getElem_toArray, List.getElem_cons_zero, List.getElem_cons_succ, List.setIfInBounds_toArray, List.set_cons_zero, List.set_cons_succ])
      refine wpAnyH_take (i := 4) (oi := _) (v := undef) rfl (by kernel_rfl) (by kernel_rfl) (by kernel_rfl) (fun _ _ _ h => h) (Or.inr ⟨?_, rfl⟩) hHeld ?_
      · rfl
      (try simp only [Act.put, List.getElem_toArray, List.getElem_cons_zero, List.getElem_cons_succ, List.setIfInBounds_toArray, List.set_cons_zero, List.set_cons_succ])
      refine wpAnyH_take (i := 5) (oi := _) (v := undef) rfl (by kernel_rfl) (by kernel_rfl) (by kernel_rfl) (fun _ _ _ h => h) (Or.inr ⟨?_, rfl⟩) hHeld ?_
      · rfl
      (try simp only [Act.put, List.getElem_toArray, List.getElem_cons_zero, List.getElem_cons_succ, List.setIfInBounds_toArray, List.set_cons_zero, List.set_cons_succ])
      refine wpAnyH_take (i := 6) (oi := _) (v := undef) rfl (by kernel_rfl) (by kernel_rfl) (by kernel_rfl) (fun _ _ _ h => h) (Or.inr ⟨?_, rfl⟩) hHeld ?_
      · rfl
      (try simp only [Act.put, List.getElem_toArray, List.getElem_cons_zero, List.getElem_cons_succ, List.setIfInBounds_toArray, List.set_cons_zero, List.set_cons_succ])
      refine wpAnyH_take (i := 7) (oi := _) (v := undef) rfl (by kernel_rfl) (by kernel_rfl) (by kernel_rfl) (fun _ _ _ h => h) (Or.inr ⟨?_, rfl⟩) hHeld ?_
      · rfl
      (try simp only [Act.put, List.getElem_toArray, List.getElem_cons_zero, List.getElem_cons_succ, List.setIfInBounds_toArray, List.set_cons_zero, List.set_cons_succ])
      refine wpAnyH_take (i := 8) (oi := _) (v := undef) rfl (by kernel_rfl) (by kernel_rfl) (by kernel_rfl) (fun _ _ _ h => h) (Or.inr ⟨?_, rfl⟩) hHeld ?_
      · rfl
      (try simp only [Act.put, List.getElem_toArray, List.getElem_cons_zero, List.getElem_cons_succ, List.setIfInBounds_toArray, List.set_cons_zero, List.set_cons_succ])
      refine wpAnyH_take (i := 9) (oi := _) (v := undef) rfl (by kernel_rfl) (by kernel_rfl) (by kernel_rfl) (fun _ _ _ h => h) (Or.inr ⟨?_, rfl⟩) hHeld ?_
      · rfl
      (try simp only [Act.put, List.getElem_toArray, List.getElem_cons_zero, List.getElem_cons_succ, List.setIfInBounds_toArray, List.set_cons_zero, List.set_cons_succ])
      refine wpAnyH_take (i := 10) (oi := _) (v := undef) rfl (by kernel_rfl) (by kernel_rfl) (by kernel_rfl) (fun _ _ _ h => h) (Or.inr ⟨?_, rfl⟩) hHeld ?_
      · rfl
      (try simp only [Act.put, List.getElem_toArray, List.getElem_cons_zero, List.getElem_cons_succ, List.setIfInBounds_toArray, List.set_cons_zero, List.set_cons_succ])
      refine wpAnyH_take (i := 11) (oi := _) (v := undef) rfl (by kernel_rfl) (by kernel_rfl) (by kernel_rfl) (fun _ _ _ h => h) (Or.inr ⟨?_, rfl⟩) hHeld ?_
      · rfl
      (try simp only [Act.put, List.getElem_toArray, List.getElem_cons_zero, List.getElem_cons_succ, List.setIfInBounds_toArray, List.set_cons_zero, List.set_cons_succ])
      refine wpAnyH_take (i := 12) (oi := _) (v := undef) rfl (by kernel_rfl) (by kernel_rfl) (by kernel_rfl) (fun _ _ _ h => h) (Or.inr ⟨?_, rfl⟩) hHeld ?_
      · rfl
      (try simp only [Act.put, List.getElem_toArray, List.getElem_cons_zero, List.getElem_cons_succ, List.setIfInBounds_toArray, List.set_cons_zero, List.set_cons_succ])
      refine wpAnyH_take (i := 13) (oi := _) (v := undef) rfl (by kernel_rfl) (by kernel_rfl) (by kernel_rfl) (fun _ _ _ h => h) (Or.inr ⟨?_, rfl⟩) hHeld ?_
      · rfl
      (try simp only [Act.put, List.getElem_toArray, List.getElem_cons_zero, List.getElem_cons_succ, List.setIfInBounds_toArray, List.set_cons_zero, List.set_cons_succ])
      refine wpAnyH_take (i := 14) (oi := _) (v := undef) rfl (by kernel_rfl) (by kernel_rfl) (by kernel_rfl) (fun _ _ _ h => h) (Or.inr ⟨?_, rfl⟩) hHeld ?_
      · rfl
      (try simp only [Act.put, List.getElem_toArray, List.getElem_cons_zero, List.getElem_cons_succ, List.setIfInBounds_toArray, List.set_cons_zero, List.set_cons_succ])
      refine wpAnyH_take (i := 15) (oi := _) (v := undef) rfl (by kernel_rfl) (by kernel_rfl) (by kernel_rfl) (fun _ _ _ h => h) (Or.inr ⟨?_, rfl⟩) hHeld ?_
      · rfl
      (try simp only [Act.put, List.getElem_toArray, List.getElem_cons_zero, List.getElem_cons_succ, List.setIfInBounds_toArray, List.set_cons_zero, List.set_cons_succ])
      refine wpAnyH_take (i := 16) (oi := _) (v := undef) rfl (by kernel_rfl) (by kernel_rfl) (by kernel_rfl) (fun _ _ _ h => h) (Or.inr ⟨?_, rfl⟩) hHeld ?_
      · rfl
      (try simp only [Act.put, List.getElem_toArray, List.getElem_cons_zero, List.getElem_cons_succ, List.setIfInBounds_toArray, List.set_cons_zero, List.set_cons_succ])
      refine wpAnyH_take (i := 17) (oi := _) (v := undef) rfl (by kernel_rfl) (by kernel_rfl) (by kernel_rfl) (fun _ _ _ h => h) (Or.inr ⟨?_, rfl⟩) hHeld ?_
      · rfl
      (try simp only [Act.put, List.getElem_toArray, List.getElem_cons_zero, List.getElem_cons_succ, List.setIfInBounds_toArray, List.set_cons_zero, List.set_cons_succ])
      refine wpAnyH_take (i := 18) (oi := _) (v := undef) rfl (by kernel_rfl) (by kernel_rfl) (by kernel_rfl) (fun _ _ _ h => h) (Or.inr ⟨?_, rfl⟩) hHeld ?_
      · rfl
      (try simp only [Act.put, List.getElem_toArray, List.getElem_cons_zero, List.getElem_cons_succ, List.setIfInBounds_toArray, List.set_cons_zero, List.set_cons_succ])
      refine wpAnyH_take (i := 19) (oi := _) (v := .bool true) rfl (by kernel_rfl) (by kernel_rfl) (by kernel_rfl) (fun _ _ _ h => h) (Or.inl ⟨?_, ?_⟩) hHeld ?_
      · rfl
      · (intro w hSw; go_simp)
      (try simp only [Act.put, List.getElem_toArray, List.getElem_cons_zero, List.getElem_cons_succ, List.setIfInBounds_toArray, List.set_cons_zero, List.set_cons_succ])
      refine wpAnyH_take (i := 20) (oi := _) (v := .bool true) rfl (by kernel_rfl) (by kernel_rfl) (by kernel_rfl) (fun _ _ _ h => h) (Or.inl ⟨?_, ?_⟩) hHeld ?_
      · rfl
      · (intro w hSw; go_simp)
      (try simp only [Act.put, List.getElem_toArray, List.getElem_cons_zero, List.getElem_cons_succ, List.setIfInBounds_toArray, List.set_cons_zero, List.set_cons_succ])
      refine wpAnyH_ready (rs := [21]) (by kernel_rfl) (by simp) ?_
      refine AllReadyH.cons (o := _) rfl (fun K hK => ?_) AllReadyH.nil
      go_simp
      refine (live_any _ (ht.keep (bdr Z6))).mono ?_
      rintro e W1 ⟨rfl, hk⟩
      try go_wp2_with fail
      refine hK.out _ _ trivial (fun hHeld2 => ?_)
      clear hK K
      (try simp only [Act.put, List.getElem_toArray, List.getElem_cons_zero, List.getElem_cons_succ, List.setIfInBounds_toArray, List.set_cons_zero, List.set_cons_succ])
      refine wpAnyH_take (i := 22) (oi := _) (v := .bool true) rfl (by kernel_rfl) (by kernel_rfl) (by kernel_rfl) (fun _ _ _ h => h) (Or.inl ⟨?_, ?_⟩) hHeld2 ?_
      · rfl
      · (intro w hSw; go_simp)
      (try simp only [Act.put, List.getElem_toArray, List.getElem_cons_zero, List.getElem_cons_succ, List.setIfInBounds_toArray, List.set_cons_zero, List.set_cons_succ])
      refine wpAnyH_take (i := 23) (oi := _) (v := .bool true) rfl (by kernel_rfl) (by kernel_rfl) (by kernel_rfl) (fun _ _ _ h => h) (Or.inl ⟨?_, ?_⟩) hHeld2 ?_
      · rfl
      · (intro w hSw; go_simp)
      (try simp only [Act.put, List.getElem_toArray, List.getElem_cons_zero, List.getElem_cons_succ, List.setIfInBounds_toArray, List.set_cons_zero, List.set_cons_succ])
      refine wpAnyH_done (by kernel_rfl) ?_ _
      go_wp2_with fail
      go_ret
      exact ⟨rfl, btr (bdr Z6) hk⟩
    · simp only [hii] at INT
      have INT := Lib.hid INT
      clear hs hk hi hin hii
      go_enter Tryd.func9, Tryd.ntmps9
      have A0 := Own.al (Own.new w (.int .i64 ha) (.int .u64 la) 24) (.cells #[.int .i64 hb, .int .u64 lb] 24)
      have B0 := Own.new2 w (.cells #[.int .i64 ha, .int .u64 la] 24) (.int .i64 hb) (.int .u64 lb) 24
      go_wp2_with fail
      refine (ADD.out _).mono ?_
      rintro e w1 ⟨rfl, q1⟩
      have A1 := (A0.keep q1).al (.cells #[.int .i64 (wH s), .int .u64 (wL s)] 24)
      have B1 := (B0.keep q1).al (.cells #[.int .i64 (wH s), .int .u64 (wL s)] 24)
      have S1 := Own.new w1 (.int .i64 (wH s)) (.int .u64 (wL s)) 24
      have Z1 := btr (bal (bal (bref w) _) _) q1
      clear A0 B0 q1
      have A1x := A1; have B1x := B1; have S1x := S1
      obtain ⟨f1, f2, _, _⟩ := A1x; obtain ⟨f3, f4, _, _⟩ := B1x; obtain ⟨f5, f6, _, _⟩ := S1x
      go_wp2_with fail
      clear f1 f2 f3 f4 f5 f6
      refine (SUB.out _).mono ?_
      rintro e w2 ⟨rfl, q2⟩
      have A2 := (A1.keep q2).al (.cells #[.int .i64 ha, .int .u64 la] 24)
      have B2 := (B1.keep q2).al (.cells #[.int .i64 ha, .int .u64 la] 24)
      have S2 := (S1.keep q2).al (.cells #[.int .i64 ha, .int .u64 la] 24)
      have D2 := Own.new w2 (.int .i64 ha) (.int .u64 la) 24
      have Z2 := btr (bal Z1 _) q2
      clear A1 B1 S1 Z1 q2
      have A2x := A2; have B2x := B2; have D2x := D2
      obtain ⟨f1, f2, _, _⟩ := A2x; obtain ⟨f3, f4, _, _⟩ := B2x; obtain ⟨f5, f6, _, _⟩ := D2x
      go_wp2_with fail
      clear f1 f2 f3 f4 f5 f6 D2
      refine (ADD2.out _).mono ?_
      rintro e w3 ⟨rfl, q3⟩
      have A3 := (A2.keep q3).al (.cells #[.int .i64 (wH s), .int .u64 (wL s)] 24)
      have S3 := (S2.keep q3).al (.cells #[.int .i64 (wH s), .int .u64 (wL s)] 24)
      have T3 := Own.new w3 (.int .i64 (wH s)) (.int .u64 (wL s)) 24
      have Z3 := btr (bal Z2 _) q3
      clear A2 B2 S2 Z2 q3
      have A3x := A3
      obtain ⟨f1, f2, _, _⟩ := A3x
      go_wp2_with fail
      clear f1 f2
      refine (INT.out _).mono ?_
      rintro e w4 ⟨rfl, q4⟩
      have S4 := S3.keep q4
      have T4 := T3.keep q4
      have Z4 := btr (bal Z3 _) q4
      clear A3 S3 T3 Z3 q4
      obtain ⟨f1, f2, _, _⟩ := S4; obtain ⟨f3, f4, _, _⟩ := T4
      go_wp2_with fail
      clear f1 f2 f3 f4
      refine (of_any n h5 _).mono ?_
      rintro e w5 ⟨rfl, q5⟩
      have Z5 := btr Z4 q5
      clear Z4 q5
      go_wp2_with fail
      refine (SC.out _).mono ?_
      rintro e w6 ⟨rfl, q6⟩
      have X6 := Own.new w6 (.int .i64 (wH (n * k))) (.int .u64 (wL (n * k))) 24
      have Z6 := bal (btr Z5 q6) (.cells #[.int .i64 (wH (n * k)), .int .u64 (wL (n * k))] 24)
      clear Z5 q6
      obtain ⟨x0, x1, _, _⟩ := X6
      have T6 := ht.keep Z6
      go_wp2_with fail
      obtain ⟨WX, hWX⟩ : ∃ X, w6.alloc (.cells #[.int .i64 (wH (n * k)), .int .u64 (wL (n * k))] 24) = X := ⟨_, rfl⟩
      rw [hWX] at x0 x1 Z6 T6 ⊢
      clear hWX
      generalize w6.heap.size = n6 at *
      have K := And.intro (show WX.drew.cell? ⟨n6, 0, none⟩ = _ from x0) (And.intro (show WX.drew.cell? ⟨n6, 1, none⟩ = _ from x1) (And.intro (ht.keep (bdr Z6)) (bdr Z6)))
      go_region_held3 (fun W => W.cell? ⟨n6, 0, none⟩ = some (.int .i64 (wH (n * k))) ∧ W.cell? ⟨n6, 1, none⟩ = some (.int .u64 (wL (n * k))) ∧ Tb W ∧ Below w.heap.size w W)
        (first | exact K | exact keep2 (by assumption) hk | (go_split_ands; exact keep2 ⟨by assumption, by assumption, by assumption, by assumption⟩ hk))
        (first
          | (go_at_call_of 29 (#[Value.int .i64 n, Value.int .i64 k]); refine (M1.out _).mono ?_; rintro e W1 ⟨rfl, hk⟩)
          | (go_at_call_of 29 (#[Value.int .i64 k, Value.int .i64 n]); refine (M2.out _).mono ?_; rintro e W1 ⟨rfl, hk⟩)
          | (go_at_call 24; (try go_split_ands); refine (live_any _ ?_).mono ?_; (first | assumption | exact K.2.2.1); rintro e W1 ⟨rfl, hk⟩))
      go_wp2_with fail
      (try go_split_ands)
      go_ret
      exact ⟨rfl, by first | assumption | exact btr (by assumption) hk | exact btr K.2.2.2 hk⟩
end Go.Proofs.YtfapcllhcbedlaaDoor
