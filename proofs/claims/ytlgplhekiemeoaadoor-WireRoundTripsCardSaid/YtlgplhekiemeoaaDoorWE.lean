/-
  The document's own first: one text read.
-/
import Derived.Test.YtlgplhekiemeoaaDoorWD
import Derived.OwnWalk
namespace Go.Proofs.YtlgplhekiemeoaaDoor
open Go Go.RowKit Go.Lib WM

theorem getD_at (s : ByteArray) (k : Nat) (h : k < s.size) : (byt s)[k]'(by rw [byt_len]; exact h) = s[k] := rfl
theorem colon_no (s : ByteArray) (k : Nat) (h : k < cpos (byt s)) (hk : k < s.size) : ((s[k].toNat : Int) != 58) = true := by
  rw [bne_iff_ne]
  intro e
  exact cpos_at (byt s) k h (by rw [byt_len]; exact hk) (by rw [getD_at s k hk]; exact UInt8.toNat_inj.1 (by have : (58 : UInt8).toNat = 58 := rfl; omega))
theorem colon_at (s : ByteArray) (h : cpos (byt s) < s.size) : (s[cpos (byt s)].toNat : Int) = 58 := by
  have := cpos_here (byt s) (by rw [byt_len]; exact h)
  rw [getD_at s _ h] at this
  rw [this]; rfl
theorem hd_cut (s : ByteArray) : s.extract 0 (cpos (byt s)) = str (hdL (byt s)) := by
  rw [str_cut]; rfl
theorem x_cut (s : ByteArray) : s.extract (cpos (byt s) + 1) (cpos (byt s) + 1 + cutN (byt s)) = str (cutX (byt s)) := by
  rw [str_cut]
  unfold cutX byt
  rw [List.drop_take]
  congr 2
  omega

set_option maxRecDepth 100000 in
set_option maxHeartbeats 2000000 in
theorem rfirst_no (s : ByteArray) (hs : s.size ≤ 281474976710656) (h : cpos (byt s) = s.size) (w : World) :
    Calls Tryd.prog 27 #[.string s] w fun e w' => e = .returned (.tuple #[.string ⟨#[]⟩, .int .i64 0, .int .i64 2]) ∧ w = w' := by
  have L0 := fun k h hk => colon_no s k h hk
  have hKs : cpos (byt s) ≤ s.size := by rw [← byt_len]; exact cpos_le _
  obtain ⟨K, hK⟩ : ∃ K, cpos (byt s) = K := ⟨_, rfl⟩
  simp only [hK] at *
  have L1 := Lib.hid L0
  clear hK L0 
  go_enter Tryd.func27, Tryd.ntmps27
  go_wp2_with fail
  go_loop [5] (fun i => ∃ k : Nat, k ≤ K ∧ i = .int .i64 k) (fun i => K - (RowKit.intOf i).toNat)
  case atStart => exact ⟨0, by omega, rfl⟩
  case round =>
    obtain ⟨k, hk, rfl⟩ := hrel
    by_cases hlt : k < K
    · have hks : k < s.size := by omega
      have hkz : (k : Int) < (s.size : Int) := by omega
      have hne := L1.out k hlt hks
      go_wp2_with fail
      go_round
      case rel => exact ⟨k + 1, by omega, by go_num⟩
      case measure => simp [RowKit.intOf]; omega
    · have he : k = K := by omega
      subst he
      have hkz : (k : Int) = (s.size : Int) := by omega
      have hkb : ((k : Int) == (s.size : Int)) = true := by rw [beq_iff_eq]; exact hkz
      go_wp2_with fail
      go_ret3
      exact ⟨rfl, rfl⟩

set_option maxRecDepth 100000 in
set_option maxHeartbeats 2000000 in
theorem rfirst_far (s : ByteArray) (hs : s.size ≤ 281474976710656) (h : cpos (byt s) < s.size) (h6 : 6 < cpos (byt s)) (w : World) :
    Calls Tryd.prog 27 #[.string s] w fun e w' => e = .returned (.tuple #[.string ⟨#[]⟩, .int .i64 0, .int .i64 2]) ∧ w = w' := by
  have L0 := fun k h hk => colon_no s k h hk
  have hKs : cpos (byt s) ≤ s.size := by rw [← byt_len]; exact cpos_le _
  have L2 := colon_at s (by omega)
  obtain ⟨K, hK⟩ : ∃ K, cpos (byt s) = K := ⟨_, rfl⟩
  simp only [hK] at *
  have L1 := Lib.hid L0
  clear hK L0 
  go_enter Tryd.func27, Tryd.ntmps27
  go_wp2_with fail
  go_loop [5] (fun i => ∃ k : Nat, k ≤ K ∧ i = .int .i64 k) (fun i => K - (RowKit.intOf i).toNat)
  case atStart => exact ⟨0, by omega, rfl⟩
  case round =>
    obtain ⟨k, hk, rfl⟩ := hrel
    by_cases hlt : k < K
    · have hks : k < s.size := by omega
      have hkz : (k : Int) < (s.size : Int) := by omega
      have hne := L1.out k hlt hks
      go_wp2_with fail
      go_round
      case rel => exact ⟨k + 1, by omega, by go_num⟩
      case measure => simp [RowKit.intOf]; omega
    · have he : k = K := by omega
      subst he
      have hkz : ¬ (k : Int) = (s.size : Int) := by omega
      have hkb : ((k : Int) == (s.size : Int)) = false := by rw [beq_eq_false_iff_ne]; exact hkz
      have h6z : (6 : Int) < (k : Int) := by omega
      go_wp2_with fail
      go_ret3
      exact ⟨rfl, rfl⟩

set_option maxRecDepth 100000 in
set_option maxHeartbeats 2000000 in
theorem rfirst_bad1 (s : ByteArray) (hs : s.size ≤ 281474976710656) (h : cpos (byt s) < s.size) (h6 : ¬ 6 < cpos (byt s)) (hb : tiE (hdL (byt s)) ≠ 0) (w : World) :
    Calls Tryd.prog 27 #[.string s] w fun e w' => e = .returned (.tuple #[.string ⟨#[]⟩, .int .i64 0, .int .i64 2]) ∧ w = w' := by
  have L0 := fun k h hk => colon_no s k h hk
  have hKs : cpos (byt s) ≤ s.size := by rw [← byt_len]; exact cpos_le _
  have L2 := colon_at s (by omega)
  have T0 := fun W => rtake (str (hdL (byt s))) (by rw [str_size, hdL_len]; omega) W
  have hc := hd_cut s
  rw [str_list, ← hc] at T0
  obtain ⟨E, hE⟩ : ∃ E, tiE (hdL (byt s)) = E := ⟨_, rfl⟩
  obtain ⟨V, hV⟩ : ∃ V, tiV (hdL (byt s)) = V := ⟨_, rfl⟩
  rw [hE, hV] at T0
  obtain ⟨K, hK⟩ : ∃ K, cpos (byt s) = K := ⟨_, rfl⟩
  simp only [hK] at *
  rw [hE] at hb
  have hbb : (E != 0) = true := by rw [bne_iff_ne]; exact hb
  have TT := Lib.hid T0
  clear T0
  have L1 := Lib.hid L0
  clear hK L0 hE hV hc
  go_enter Tryd.func27, Tryd.ntmps27
  go_wp2_with fail
  go_loop [5] (fun i => ∃ k : Nat, k ≤ K ∧ i = .int .i64 k) (fun i => K - (RowKit.intOf i).toNat)
  case atStart => exact ⟨0, by omega, rfl⟩
  case round =>
    obtain ⟨k, hk, rfl⟩ := hrel
    by_cases hlt : k < K
    · have hks : k < s.size := by omega
      have hkz : (k : Int) < (s.size : Int) := by omega
      have hne := L1.out k hlt hks
      go_wp2_with fail
      go_round
      case rel => exact ⟨k + 1, by omega, by go_num⟩
      case measure => simp [RowKit.intOf]; omega
    · have he : k = K := by omega
      subst he
      have hkz : ¬ (k : Int) = (s.size : Int) := by omega
      have hkb : ((k : Int) == (s.size : Int)) = false := by rw [beq_eq_false_iff_ne]; exact hkz
      have hks : (k : Int) ≤ (s.size : Int) := by omega
      have h6z : ¬ (6 : Int) < (k : Int) := by omega
      go_wp2_with fail
      refine (TT.out _).mono ?_
      rintro e w1 ⟨rfl, rfl⟩
      go_wp2_with fail
      go_ret3
      exact ⟨rfl, rfl⟩

set_option maxRecDepth 100000 in
set_option maxHeartbeats 2000000 in
theorem rfirst_bad2 (s : ByteArray) (hs : s.size ≤ 281474976710656) (h : cpos (byt s) < s.size) (h6 : ¬ 6 < cpos (byt s)) (hb : tiE (hdL (byt s)) = 0) (hv : tiV (hdL (byt s)) < 0) (w : World) :
    Calls Tryd.prog 27 #[.string s] w fun e w' => e = .returned (.tuple #[.string ⟨#[]⟩, .int .i64 0, .int .i64 2]) ∧ w = w' := by
  have L0 := fun k h hk => colon_no s k h hk
  have hKs : cpos (byt s) ≤ s.size := by rw [← byt_len]; exact cpos_le _
  have L2 := colon_at s (by omega)
  have T0 := fun W => rtake (str (hdL (byt s))) (by rw [str_size, hdL_len]; omega) W
  have hc := hd_cut s
  rw [str_list, ← hc] at T0
  obtain ⟨E, hE⟩ : ∃ E, tiE (hdL (byt s)) = E := ⟨_, rfl⟩
  obtain ⟨V, hV⟩ : ∃ V, tiV (hdL (byt s)) = V := ⟨_, rfl⟩
  rw [hb, hV] at T0
  obtain ⟨K, hK⟩ : ∃ K, cpos (byt s) = K := ⟨_, rfl⟩
  simp only [hK] at *
  rw [hV] at hv
  have TT := Lib.hid T0
  clear T0 hb
  have L1 := Lib.hid L0
  clear hK L0 hE hV hc
  go_enter Tryd.func27, Tryd.ntmps27
  go_wp2_with fail
  go_loop [5] (fun i => ∃ k : Nat, k ≤ K ∧ i = .int .i64 k) (fun i => K - (RowKit.intOf i).toNat)
  case atStart => exact ⟨0, by omega, rfl⟩
  case round =>
    obtain ⟨k, hk, rfl⟩ := hrel
    by_cases hlt : k < K
    · have hks : k < s.size := by omega
      have hkz : (k : Int) < (s.size : Int) := by omega
      have hne := L1.out k hlt hks
      go_wp2_with fail
      go_round
      case rel => exact ⟨k + 1, by omega, by go_num⟩
      case measure => simp [RowKit.intOf]; omega
    · have he : k = K := by omega
      subst he
      have hkz : ¬ (k : Int) = (s.size : Int) := by omega
      have hkb : ((k : Int) == (s.size : Int)) = false := by rw [beq_eq_false_iff_ne]; exact hkz
      have hks : (k : Int) ≤ (s.size : Int) := by omega
      have h6z : ¬ (6 : Int) < (k : Int) := by omega
      go_wp2_with fail
      refine (TT.out _).mono ?_
      rintro e w1 ⟨rfl, rfl⟩
      go_wp2_with fail
      go_ret3
      exact ⟨rfl, rfl⟩

set_option maxRecDepth 100000 in
set_option maxHeartbeats 2000000 in
theorem rfirst_bad3 (s : ByteArray) (hs : s.size ≤ 281474976710656) (h : cpos (byt s) < s.size) (h6 : ¬ 6 < cpos (byt s)) (hb : tiE (hdL (byt s)) = 0) (hv0 : ¬ tiV (hdL (byt s)) < 0) (hv : 16384 < tiV (hdL (byt s))) (w : World) :
    Calls Tryd.prog 27 #[.string s] w fun e w' => e = .returned (.tuple #[.string ⟨#[]⟩, .int .i64 0, .int .i64 2]) ∧ w = w' := by
  have L0 := fun k h hk => colon_no s k h hk
  have hKs : cpos (byt s) ≤ s.size := by rw [← byt_len]; exact cpos_le _
  have L2 := colon_at s (by omega)
  have T0 := fun W => rtake (str (hdL (byt s))) (by rw [str_size, hdL_len]; omega) W
  have hc := hd_cut s
  rw [str_list, ← hc] at T0
  obtain ⟨E, hE⟩ : ∃ E, tiE (hdL (byt s)) = E := ⟨_, rfl⟩
  obtain ⟨V, hV⟩ : ∃ V, tiV (hdL (byt s)) = V := ⟨_, rfl⟩
  rw [hb, hV] at T0
  obtain ⟨K, hK⟩ : ∃ K, cpos (byt s) = K := ⟨_, rfl⟩
  simp only [hK] at *
  rw [hV] at hv hv0
  have TT := Lib.hid T0
  clear T0 hb
  have L1 := Lib.hid L0
  clear hK L0 hE hV hc
  go_enter Tryd.func27, Tryd.ntmps27
  go_wp2_with fail
  go_loop [5] (fun i => ∃ k : Nat, k ≤ K ∧ i = .int .i64 k) (fun i => K - (RowKit.intOf i).toNat)
  case atStart => exact ⟨0, by omega, rfl⟩
  case round =>
    obtain ⟨k, hk, rfl⟩ := hrel
    by_cases hlt : k < K
    · have hks : k < s.size := by omega
      have hkz : (k : Int) < (s.size : Int) := by omega
      have hne := L1.out k hlt hks
      go_wp2_with fail
      go_round
      case rel => exact ⟨k + 1, by omega, by go_num⟩
      case measure => simp [RowKit.intOf]; omega
    · have he : k = K := by omega
      subst he
      have hkz : ¬ (k : Int) = (s.size : Int) := by omega
      have hkb : ((k : Int) == (s.size : Int)) = false := by rw [beq_eq_false_iff_ne]; exact hkz
      have hks : (k : Int) ≤ (s.size : Int) := by omega
      have h6z : ¬ (6 : Int) < (k : Int) := by omega
      go_wp2_with fail
      refine (TT.out _).mono ?_
      rintro e w1 ⟨rfl, rfl⟩
      go_wp2_with fail
      go_ret3
      exact ⟨rfl, rfl⟩

set_option maxRecDepth 100000 in
set_option maxHeartbeats 2000000 in
theorem rfirst_short (s : ByteArray) (hs : s.size ≤ 281474976710656) (h : cpos (byt s) < s.size) (h6 : ¬ 6 < cpos (byt s)) (hb : lenB (hdL (byt s)) = true) (h2 : s.size < cpos (byt s) + 1 + cutN (byt s)) (w : World) :
    Calls Tryd.prog 27 #[.string s] w fun e w' => e = .returned (.tuple #[.string ⟨#[]⟩, .int .i64 0, .int .i64 24]) ∧ w = w' := by
  have L0 := fun k h hk => colon_no s k h hk
  have hKs : cpos (byt s) ≤ s.size := by rw [← byt_len]; exact cpos_le _
  have L2 := colon_at s (by omega)
  have T0 := fun W => rtake (str (hdL (byt s))) (by rw [str_size, hdL_len]; omega) W
  have hc := hd_cut s
  obtain ⟨e1, e2, e3⟩ := lenB_iff hb
  have e4 : tiV (hdL (byt s)) = (cutN (byt s) : Int) := by unfold cutN; omega
  rw [str_list, ← hc, e1, e4] at T0
  rw [e4] at e3
  obtain ⟨N, hN⟩ : ∃ N, cutN (byt s) = N := ⟨_, rfl⟩
  simp only [hN] at *
  obtain ⟨K, hK⟩ : ∃ K, cpos (byt s) = K := ⟨_, rfl⟩
  simp only [hK] at *
  have TT := Lib.hid T0
  clear T0
  have L1 := Lib.hid L0
  clear hK L0 hN hc e1 e2 e4 hb
  go_enter Tryd.func27, Tryd.ntmps27
  go_wp2_with fail
  go_loop [5] (fun i => ∃ k : Nat, k ≤ K ∧ i = .int .i64 k) (fun i => K - (RowKit.intOf i).toNat)
  case atStart => exact ⟨0, by omega, rfl⟩
  case round =>
    obtain ⟨k, hk, rfl⟩ := hrel
    by_cases hlt : k < K
    · have hks : k < s.size := by omega
      have hkz : (k : Int) < (s.size : Int) := by omega
      have hne := L1.out k hlt hks
      go_wp2_with fail
      go_round
      case rel => exact ⟨k + 1, by omega, by go_num⟩
      case measure => simp [RowKit.intOf]; omega
    · have he : k = K := by omega
      subst he
      have hkz : ¬ (k : Int) = (s.size : Int) := by omega
      have hkb : ((k : Int) == (s.size : Int)) = false := by rw [beq_eq_false_iff_ne]; exact hkz
      have hks : (k : Int) ≤ (s.size : Int) := by omega
      have h6z : ¬ (6 : Int) < (k : Int) := by omega
      have hq : (s.size : Int) - (k : Int) - 1 < (N : Int) := by omega
      go_wp2_with fail
      refine (TT.out _).mono ?_
      rintro e w1 ⟨rfl, rfl⟩
      go_wp2_with fail
      go_ret3
      exact ⟨rfl, rfl⟩

set_option maxRecDepth 100000 in
set_option maxHeartbeats 2000000 in
theorem rfirst_fine (s : ByteArray) (hs : s.size ≤ 281474976710656) (h : cpos (byt s) < s.size) (h6 : ¬ 6 < cpos (byt s)) (hb : lenB (hdL (byt s)) = true) (h2 : ¬ s.size < cpos (byt s) + 1 + cutN (byt s)) (w : World) :
    Calls Tryd.prog 27 #[.string s] w fun e w' => e = .returned (.tuple #[.string (str (cutX (byt s))), .int .i64 ((cpos (byt s) + 1 + cutN (byt s) : Nat) : Int), .int .i64 0]) ∧ w = w' := by
  have L0 := fun k h hk => colon_no s k h hk
  have hKs : cpos (byt s) ≤ s.size := by rw [← byt_len]; exact cpos_le _
  have hx := x_cut s
  have L2 := colon_at s (by omega)
  have T0 := fun W => rtake (str (hdL (byt s))) (by rw [str_size, hdL_len]; omega) W
  have hc := hd_cut s
  obtain ⟨e1, e2, e3⟩ := lenB_iff hb
  have e4 : tiV (hdL (byt s)) = (cutN (byt s) : Int) := by unfold cutN; omega
  rw [str_list, ← hc, e1, e4] at T0
  rw [e4] at e3
  obtain ⟨N, hN⟩ : ∃ N, cutN (byt s) = N := ⟨_, rfl⟩
  simp only [hN] at *
  obtain ⟨K, hK⟩ : ∃ K, cpos (byt s) = K := ⟨_, rfl⟩
  simp only [hK] at *
  have HX := Lib.hid hx
  have TT := Lib.hid T0
  clear T0 hx
  have L1 := Lib.hid L0
  clear hK L0 hN hc e1 e2 e4 hb
  go_enter Tryd.func27, Tryd.ntmps27
  go_wp2_with fail
  go_loop [5] (fun i => ∃ k : Nat, k ≤ K ∧ i = .int .i64 k) (fun i => K - (RowKit.intOf i).toNat)
  case atStart => exact ⟨0, by omega, rfl⟩
  case round =>
    obtain ⟨k, hk, rfl⟩ := hrel
    by_cases hlt : k < K
    · have hks : k < s.size := by omega
      have hkz : (k : Int) < (s.size : Int) := by omega
      have hne := L1.out k hlt hks
      go_wp2_with fail
      go_round
      case rel => exact ⟨k + 1, by omega, by go_num⟩
      case measure => simp [RowKit.intOf]; omega
    · have he : k = K := by omega
      subst he
      have hkz : ¬ (k : Int) = (s.size : Int) := by omega
      have hkb : ((k : Int) == (s.size : Int)) = false := by rw [beq_eq_false_iff_ne]; exact hkz
      have hks : (k : Int) ≤ (s.size : Int) := by omega
      have h6z : ¬ (6 : Int) < (k : Int) := by omega
      have hq : ¬ (s.size : Int) - (k : Int) - 1 < (N : Int) := by omega
      have hq2 : (k : Int) + 1 + (N : Int) ≤ (s.size : Int) := by omega
      have hq3 : (k : Int) + 1 ≤ (k : Int) + 1 + (N : Int) := by omega
      go_wp2_with fail
      refine (TT.out _).mono ?_
      rintro e w1 ⟨rfl, rfl⟩
      go_wp2_with fail
      go_ret3
      exact ⟨by rw [← HX.out]; rfl, rfl⟩

theorem rfirst_err (s : ByteArray) (hs : s.size ≤ 281474976710656) (hc : cutE (byt s) ≠ 0) (w : World) :
    Calls Tryd.prog 27 #[.string s] w fun e w' => e = .returned (.tuple #[.string ⟨#[]⟩, .int .i64 0, .int .i64 (cutE (byt s))]) ∧ w = w' := by
  have hle := cpos_le (byt s)
  have hl := byt_len s
  by_cases h : cpos (byt s) = s.size
  · rw [cut_no _ (by rw [hl]; exact h)]
    exact rfirst_no s hs h w
  · have hlt : cpos (byt s) < s.size := by omega
    by_cases h6 : 6 < cpos (byt s)
    · rw [cut_far _ h6]
      exact rfirst_far s hs hlt h6 w
    · cases hb : lenB (hdL (byt s))
      · rw [cut_bad _ hb]
        by_cases e1 : tiE (hdL (byt s)) = 0
        · by_cases e2 : tiV (hdL (byt s)) < 0
          · exact rfirst_bad2 s hs hlt h6 e1 e2 w
          · refine rfirst_bad3 s hs hlt h6 e1 e2 ?_ w
            unfold lenB at hb
            rw [decide_eq_false_iff_not] at hb
            omega
        · exact rfirst_bad1 s hs hlt h6 e1 w
      · by_cases h2 : s.size < cpos (byt s) + 1 + cutN (byt s)
        · rw [cut_short _ (by omega) hb (by omega)]
          exact rfirst_short s hs hlt h6 hb h2 w
        · exact absurd (cut_fine _ (by omega) hb (by omega)) hc
theorem rfirst_ok (s : ByteArray) (hs : s.size ≤ 281474976710656) (hc : cutE (byt s) = 0) (w : World) :
    Calls Tryd.prog 27 #[.string s] w fun e w' => e = .returned (.tuple #[.string (str (cutX (byt s))), .int .i64 ((cpos (byt s) + 1 + cutN (byt s) : Nat) : Int), .int .i64 0]) ∧ w = w' := by
  obtain ⟨h1, h2, h3⟩ := cutE_zero hc
  have hl := byt_len s
  refine rfirst_fine s hs (by omega) ?_ h2 (by omega) w
  have := lenB_len h2
  rw [hdL_len] at this
  omega
end Go.Proofs.YtlgplhekiemeoaaDoor
