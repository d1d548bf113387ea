/-
  The walks of four laws of package token.
-/
import Derived.Test.YtpmappddepkhiaaDoorTJ
import Derived.Test.YtpmappddepkhiaaDoorTY
namespace Go.Proofs.YtpmappddepkhiaaDoor
open Go Go.RowKit Go.Lib WM TM

theorem Gd.m {w : World} (h : Gd w) : Mk w := h.1
theorem Gd.e {w : World} (h : Gd w) : Er w := h.2.1
theorem Gd.t {w : World} (h : Gd w) : Tb w := h.2.2

set_option maxRecDepth 100000 in
set_option maxHeartbeats 8000000 in
theorem tokenWords (s : ByteArray) (w : World) (hG : Gd w) :
    Calls Tryd.prog 3 #[.string s] w fun e w' => e = .returned (.bool true) ∧ Below w.heap.size w w' := by
  have HG := Lib.hid hG
  have LV := Lib.hid (fun W h => live_any W h)
  have HB0 := Lib.hid (bref w)
  by_cases hl : 100 < s.size
  · have hlz : (100 : Int) < (s.size : Int) := by omega
    clear hl hG
    go_enter Tryd.func3, Tryd.ntmps3
    go_wp2_with fail
    with_reducible refine (LV.out _ (HG.out.keep HB0.out)).mono ?_
    rintro e w1 ⟨rfl, q1⟩
    have HB1 := Lib.hid (btr HB0.out q1)
    clear q1
    go_wp2_with fail
    go_ret
    exact ⟨rfl, HB1.out⟩
  · have hlz : ¬ (100 : Int) < (s.size : Int) := by omega
    have RW := Lib.hid (rwords w)
    have MW := Lib.hid (fun X W => mword X W)
    have M1 := fun W => mword s W
    have R1 := fun W => rword s W
    obtain ⟨V, hV⟩ : ∃ V, wrd (byt s) = V := ⟨_, rfl⟩
    rw [hV] at M1 R1
    have M2 := Lib.hid M1
    have R2 := Lib.hid R1
    have ALL : Hid (∀ k, k < 42 → wrd (wds.getD k []) = true) := Lib.hid (by
      intro k hk
      have hl : wds.length = 42 := rfl
      have : wds.getD k [] ∈ wds := by
        have e : wds.getD k [] = wds[k]'(by omega) := by simp [List.getD, hl, hk]
        rw [e]; exact List.getElem_mem _
      unfold wrd
      rw [List.contains_eq_mem, decide_eq_true_eq]; exact this)
    clear hl hG M1 R1 hV
    go_enter Tryd.func3, Tryd.ntmps3
    go_wp2_with fail
    refine RW.out.mono ?_
    rintro e w1 ⟨rfl, hW, q1⟩
    have HW := Lib.hid hW
    have HB1 := Lib.hid q1
    have hb := hW.1
    clear hW q1
    go_wp2_with fail
    go_loop [4] (fun i => ∃ (k : Nat), k ≤ 42 ∧ i = .int .i64 k) (fun i => 42 - (RowKit.intOf i).toNat)
    case atStart => exact ⟨0, by omega, rfl⟩
    case round =>
      obtain ⟨k, hk, rfl⟩ := hrel
      by_cases hlt : k < 42
      · have c0 := HW.out.2 k hlt
        have hkz : (k : Int) < 42 := by omega
        obtain ⟨X, hX⟩ : ∃ X, str (wds.getD k []) = X := ⟨_, rfl⟩
        have M3 := fun W => MW.out X W
        rw [show wrd (byt X) = true from by rw [← hX, byt_str]; exact ALL.out k hlt] at M3
        have M4 := Lib.hid M3
        rw [hX] at c0
        clear hX M3
        go_wp2_with fail
        with_reducible refine (M4.out _).mono ?_
        rintro e wz ⟨rfl, rfl⟩
        go_wp2_with fail
        go_round
        case rel => exact ⟨k + 1, by omega, by go_num⟩
        case measure => simp [RowKit.intOf]; omega
      · have he : k = 42 := by omega
        subst he
        go_wp2_with fail
        with_reducible refine (M2.out _).mono ?_
        rintro e wz ⟨rfl, rfl⟩
        go_wp2_with fail
        with_reducible refine (R2.out _).mono ?_
        rintro e w2 ⟨rfl, q2⟩
        have HB2 := Lib.hid (btr HB1.out q2)
        clear q2
        go_wp2_with fail
        with_reducible refine (LV.out _ (HG.out.keep HB2.out)).mono ?_
        rintro e w3 ⟨rfl, q3⟩
        have HB3 := Lib.hid (btr HB2.out q3)
        clear q3
        go_wp2_with fail
        go_ret
        exact ⟨rfl, HB3.out⟩

set_option maxRecDepth 100000 in
set_option maxHeartbeats 8000000 in
theorem tokenRates (s : ByteArray) (w : World) (hG : Gd w) :
    Calls Tryd.prog 5 #[.string s] w fun e w' => e = .returned (.bool true) ∧ Below w.heap.size w w' := by
  have HG := Lib.hid hG
  have LV := Lib.hid (fun W h => live_any W h)
  have HB0 := Lib.hid (bref w)
  by_cases hl : 100 < s.size
  · have hlz : (100 : Int) < (s.size : Int) := by omega
    clear hl hG
    go_enter Tryd.func5, Tryd.ntmps5
    go_wp2_with fail
    with_reducible refine (LV.out _ (HG.out.keep HB0.out)).mono ?_
    rintro e w1 ⟨rfl, q1⟩
    have HB1 := Lib.hid (btr HB0.out q1)
    clear q1
    go_wp2_with fail
    go_ret
    exact ⟨rfl, HB1.out⟩
  · have hlz : ¬ (100 : Int) < (s.size : Int) := by omega
    have M1 := fun W hE => mrate s (by omega) W hE
    have R1 := fun W => rrate s (by omega) W
    have P1 := fun W hT => mpercent ((rV (byt s) : Nat) : Int) W hT
    have hpr := pct_rate (byt s)
    by_cases hE0 : rE (byt s) = 0
    · obtain ⟨h1, h2⟩ := hpr hE0
      have p1 : pE ((rV (byt s) : Nat) : Int) = 0 := by unfold pE; rw [if_pos (by omega)]
      have p2 : str (pV ((rV (byt s) : Nat) : Int)) = s := by
        unfold pV
        rw [if_pos (by omega), Int.toNat_natCast, h1, str_byt]
      rw [p1, p2] at P1
      rw [hE0] at M1 R1
      obtain ⟨V, hV⟩ : ∃ V, rV (byt s) = V := ⟨_, rfl⟩
      rw [hV] at M1 R1 P1
      have M2 := Lib.hid M1
      have R2 := Lib.hid R1
      have P2 := Lib.hid P1
      clear hl hG M1 R1 P1 hpr hE0 h1 h2 p1 p2 hV
      go_enter Tryd.func5, Tryd.ntmps5
      go_wp2_with fail
      with_reducible refine (M2.out _ (HG.out.keep HB0.out).e).mono ?_
      rintro e w1 ⟨rfl, q1⟩
      have HB1 := Lib.hid (btr HB0.out q1)
      clear q1
      go_wp2_with fail
      with_reducible refine (R2.out _).mono ?_
      rintro e wz ⟨rfl, rfl⟩
      go_wp2_with fail
      with_reducible refine (P2.out _ (HG.out.keep HB1.out).t).mono ?_
      rintro e w2 ⟨rfl, q2⟩
      have HB2 := Lib.hid (btr HB1.out q2)
      clear q2
      go_wp2_with fail
      with_reducible refine (LV.out _ (HG.out.keep HB2.out)).mono ?_
      rintro e w3 ⟨rfl, q3⟩
      have HB3 := Lib.hid (btr HB2.out q3)
      clear q3
      go_wp2_with fail
      go_ret
      exact ⟨rfl, HB3.out⟩
    · obtain ⟨V, hV⟩ : ∃ V, rV (byt s) = V := ⟨_, rfl⟩
      obtain ⟨E, hE⟩ : ∃ E, rE (byt s) = E := ⟨_, rfl⟩
      rw [hV, hE] at M1 R1
      rw [hV] at P1
      rw [hE] at hE0
      obtain ⟨X, hX⟩ : ∃ X, str (pV (V : Int)) = X := ⟨_, rfl⟩
      obtain ⟨F, hF⟩ : ∃ F, pE (V : Int) = F := ⟨_, rfl⟩
      rw [hX, hF] at P1
      have hEb : (E != 0) = true := by rw [bne_iff_ne]; exact hE0
      have M2 := Lib.hid M1
      have R2 := Lib.hid R1
      have P2 := Lib.hid P1
      clear hl hG M1 R1 P1 hpr hE0 hV hE hX hF
      go_enter Tryd.func5, Tryd.ntmps5
      go_wp2_with fail
      with_reducible refine (M2.out _ (HG.out.keep HB0.out).e).mono ?_
      rintro e w1 ⟨rfl, q1⟩
      have HB1 := Lib.hid (btr HB0.out q1)
      clear q1
      go_wp2_with fail
      with_reducible refine (R2.out _).mono ?_
      rintro e wz ⟨rfl, rfl⟩
      go_wp2_with fail
      with_reducible refine (P2.out _ (HG.out.keep HB1.out).t).mono ?_
      rintro e w2 ⟨rfl, q2⟩
      have HB2 := Lib.hid (btr HB1.out q2)
      clear q2
      go_wp2_with fail
      with_reducible refine (LV.out _ (HG.out.keep HB2.out)).mono ?_
      rintro e w3 ⟨rfl, q3⟩
      have HB3 := Lib.hid (btr HB2.out q3)
      clear q3
      go_wp2_with fail
      go_ret
      exact ⟨rfl, HB3.out⟩

set_option maxRecDepth 100000 in
set_option maxHeartbeats 8000000 in
theorem tokenPercents (n : Int) (w : World) (hG : Gd w) :
    Calls Tryd.prog 6 #[.int .i64 n] w fun e w' => e = .returned (.bool true) ∧ Below w.heap.size w w' := by
  have HG := Lib.hid hG
  have LV := Lib.hid (fun W h => live_any W h)
  have HB0 := Lib.hid (bref w)
  have M1 := fun W hT => mpercent n W hT
  have R1 := fun W => rpercent n W
  have hlen : (str (pV n)).size ≤ 281474976710600 := by
    rw [str_size]
    unfold pV
    split
    · unfold pct tl
      have h1 := dec_small3 (n.toNat / 10000) (by omega)
      have h2 := fr_len (n.toNat % 10000)
      simp only [List.length_append]
      split
      · simp; omega
      · simp; omega
    · exact Nat.zero_le _
  have P1 := fun W hE => mrate (str (pV n)) hlen W hE
  rw [byt_str] at P1
  by_cases h0 : 0 ≤ n ∧ n ≤ 1000000
  · have p1 : pE n = 0 := by unfold pE; rw [if_pos h0]
    have p2 : pV n = pct n.toNat := by unfold pV; rw [if_pos h0]
    obtain ⟨r1, r2⟩ := rate_pct n.toNat (by omega)
    rw [p2, r1, r2] at P1
    rw [p1, p2] at M1 R1
    rw [show ((n.toNat : Nat) : Int) = n from by omega] at P1
    obtain ⟨X, hX⟩ : ∃ X, str (pct n.toNat) = X := ⟨_, rfl⟩
    rw [hX] at M1 R1 P1
    have M2 := Lib.hid M1
    have R2 := Lib.hid R1
    have P2 := Lib.hid P1
    clear hG M1 R1 P1 hlen p1 p2 r1 r2 hX
    go_enter Tryd.func6, Tryd.ntmps6
    go_wp2_with fail
    with_reducible refine (M2.out _ (HG.out.keep HB0.out).t).mono ?_
    rintro e w1 ⟨rfl, q1⟩
    have HB1 := Lib.hid (btr HB0.out q1)
    clear q1
    go_wp2_with fail
    with_reducible refine (R2.out _).mono ?_
    rintro e wz ⟨rfl, rfl⟩
    go_wp2_with fail
    with_reducible refine (P2.out _ (HG.out.keep HB1.out).e).mono ?_
    rintro e w2 ⟨rfl, q2⟩
    have HB2 := Lib.hid (btr HB1.out q2)
    clear q2
    go_wp2_with fail
    with_reducible refine (LV.out _ (HG.out.keep HB2.out)).mono ?_
    rintro e w3 ⟨rfl, q3⟩
    have HB3 := Lib.hid (btr HB2.out q3)
    clear q3
    go_wp2_with fail
    go_ret
    exact ⟨rfl, HB3.out⟩
  · have p1 : pE n = 1 := by unfold pE; rw [if_neg h0]
    rw [p1] at M1 R1
    obtain ⟨X, hX⟩ : ∃ X, str (pV n) = X := ⟨_, rfl⟩
    rw [hX] at M1 R1 P1
    obtain ⟨V, hV⟩ : ∃ V, rV (pV n) = V := ⟨_, rfl⟩
    obtain ⟨E, hE⟩ : ∃ E, rE (pV n) = E := ⟨_, rfl⟩
    rw [hV, hE] at P1
    have M2 := Lib.hid M1
    have R2 := Lib.hid R1
    have P2 := Lib.hid P1
    clear hG M1 R1 P1 hlen p1 hX hV hE h0
    go_enter Tryd.func6, Tryd.ntmps6
    go_wp2_with fail
    with_reducible refine (M2.out _ (HG.out.keep HB0.out).t).mono ?_
    rintro e w1 ⟨rfl, q1⟩
    have HB1 := Lib.hid (btr HB0.out q1)
    clear q1
    go_wp2_with fail
    with_reducible refine (R2.out _).mono ?_
    rintro e wz ⟨rfl, rfl⟩
    go_wp2_with fail
    with_reducible refine (P2.out _ (HG.out.keep HB1.out).e).mono ?_
    rintro e w2 ⟨rfl, q2⟩
    have HB2 := Lib.hid (btr HB1.out q2)
    clear q2
    go_wp2_with fail
    with_reducible refine (LV.out _ (HG.out.keep HB2.out)).mono ?_
    rintro e w3 ⟨rfl, q3⟩
    have HB3 := Lib.hid (btr HB2.out q3)
    clear q3
    go_wp2_with fail
    go_ret
    exact ⟨rfl, HB3.out⟩

theorem sh_ok2 {l : List Tok} (h : shB l = true) (hi : ∀ t ∈ l, I64 t.1 ∧ I64 t.2.1) : TokOk l ∧ l.length ≤ 300 := by
  unfold shB at h
  rw [Bool.and_eq_true, decide_eq_true_eq, List.all_eq_true] at h
  refine ⟨fun t ht => ?_, h.1⟩
  have h1 := h.2 t ht
  rw [decide_eq_true_eq] at h1
  exact ⟨(hi t ht).2, (hi t ht).1, by omega⟩

set_option maxRecDepth 100000 in
set_option maxHeartbeats 8000000 in
theorem tokenRounds (ao : Option Addr) (l : List Tok) (c : Nat) (hok : ∀ t ∈ l, I64 t.1 ∧ I64 t.2.1) (s : ByteArray) (w : World) (hG : Gd w) (h : TokensAt ao l w) :
    Calls Tryd.prog 4 #[.slice ao l.length c, .string s] w fun e w' => e = .returned (.bool true) ∧ Below w.heap.size w w' := by
  have HG := Lib.hid hG
  have LV := Lib.hid (fun W h => live_any W h)
  have HB0 := Lib.hid (bref w)
  have HA := Lib.hid h
  have HOK := Lib.hid hok
  have S1 := fun W hA => mshort ao l c W hA
  obtain ⟨n, hn⟩ : ∃ n, l.length = n := ⟨_, rfl⟩
  rw [hn] at S1 ⊢
  cases hsh : shB l
  · rw [hsh] at S1
    have S2 := Lib.hid S1
    clear hG h hok S1 hn hsh
    go_enter Tryd.func4, Tryd.ntmps4
    go_wp2_with fail
    with_reducible refine (S2.out _ HA.out).mono ?_
    rintro e wz ⟨rfl, rfl⟩
    go_wp2_with fail
    with_reducible refine (LV.out _ (HG.out.keep HB0.out)).mono ?_
    rintro e w1 ⟨rfl, q1⟩
    have HB1 := Lib.hid (btr HB0.out q1)
    clear q1
    go_wp2_with fail
    go_ret
    exact ⟨rfl, HB1.out⟩
  rw [hsh] at S1
  have S2 := Lib.hid S1
  by_cases hl : 2100 < s.size
  · have hlz : (2100 : Int) < (s.size : Int) := by omega
    clear hG h hok S1 hn hsh hl
    go_enter Tryd.func4, Tryd.ntmps4
    go_wp2_with fail
    with_reducible refine (S2.out _ HA.out).mono ?_
    rintro e wz ⟨rfl, rfl⟩
    go_wp2_with fail
    with_reducible refine (LV.out _ (HG.out.keep HB0.out)).mono ?_
    rintro e w1 ⟨rfl, q1⟩
    have HB1 := Lib.hid (btr HB0.out q1)
    clear q1
    go_wp2_with fail
    go_ret
    exact ⟨rfl, HB1.out⟩
  have hlz : ¬ (2100 : Int) < (s.size : Int) := by omega
  obtain ⟨hTok, hl300⟩ := sh_ok2 hsh hok
  have J1 := fun W hM hE hA => mjoin ao l c (by omega) hTok W hM hE hA
  have T1 := fun W hM hE => mtokenize s W hM hE
  have hq1 := TZ_ok (l := byt s)
  have hq2 := join_TZ (l := byt s)
  have hq3 := TZ_bad (l := byt s)
  have hq4 := TZ_good (l := byt s)
  rw [byt_len] at hq2
  obtain ⟨⟨m, a, f⟩, hq⟩ : ∃ q, TZ (byt s) = q := ⟨_, rfl⟩
  rw [hq] at T1 hq1 hq2 hq3 hq4
  obtain ⟨k, hk⟩ : ∃ k, m.length = k := ⟨_, rfl⟩
  have U1 := fun ao c W hM hE hA => mjoin ao m c (by have := hq1.2; simp only at this; omega) hq1.1 W hM hE hA
  have X1 : ∀ ao c ca cb W, TokensAt ao m W → TokensAt c m W → Calls Tryd.prog 15 #[.slice ao k ca, .slice c k cb] W fun e w' => e = .returned (.bool true) ∧ Below W.heap.size W w' := fun ao c ca cb W h1 h2 => by
    have := rsame ao c m ca cb (by have := hq1.2; simp only at this; omega) W h1 h2
    rwa [hk] at this
  have V1 : ∀ x, TZ x = (m, 0, 0) → ∀ W, Mk W → Er W → Calls Tryd.prog 14 #[.string (str x)] W fun e w' => ∃ ao c, e = .returned (.tuple #[.slice ao k c, .int .i64 0, .int .i64 0]) ∧ TokensAt ao m w' ∧ Below W.heap.size W w' := fun x hx W hM hE => by
    have := mtokenize (str x) W hM hE
    rw [byt_str, hx] at this
    subst hk
    exact this
  have T2 : ∀ W, Mk W → Er W → Calls Tryd.prog 14 #[.string s] W fun e w' => ∃ ao c, e = .returned (.tuple #[.slice ao k c, .int .i64 a, .int .i64 f]) ∧ TokensAt ao m w' ∧ Below W.heap.size W w' := fun W hM hE => by
    subst hk
    exact T1 W hM hE
  have Y1 : ∀ ao c ca cb W, TokensAt ao l W → TokensAt c l W → Calls Tryd.prog 15 #[.slice ao n ca, .slice c n cb] W fun e w' => e = .returned (.bool true) ∧ Below W.heap.size W w' := fun ao c ca cb W h1 h2 => by
    have := rsame ao c l ca cb (by omega) W h1 h2
    rwa [hn] at this
  have Z1 : ∀ x, TZ x = (l, 0, 0) → ∀ W, Mk W → Er W → Calls Tryd.prog 14 #[.string (str x)] W fun e w' => ∃ ao c, e = .returned (.tuple #[.slice ao n c, .int .i64 0, .int .i64 0]) ∧ TokensAt ao l w' ∧ Below W.heap.size W w' := fun x hx W hM hE => by
    have := mtokenize (str x) W hM hE
    rw [byt_str, hx] at this
    subst hn
    exact this
  have hj := TZ_join (l := l)
  have hjm := TZ_join (l := m)
  rw [hn] at J1
  obtain ⟨E, hE⟩ : ∃ E, jE l = E := ⟨_, rfl⟩
  obtain ⟨G, hGG⟩ : ∃ G, jE m = G := ⟨_, rfl⟩
  rw [hE] at J1 hj
  rw [hGG] at hjm
  simp only [hGG] at hq2
  have U2 : ∀ ao c W, Mk W → Er W → TokensAt ao m W → Calls Tryd.prog 13 #[.slice ao k c] W fun e w' => e = .returned (.tuple #[.string (str (jV m)), .int .i64 G]) ∧ Below W.heap.size W w' := fun ao c W hM hE hA => by
    have := U1 ao c W hM hE hA
    rwa [hk, hGG] at this
  have X2 := Lib.hid X1
  have Y2 := Lib.hid Y1
  have T3 := Lib.hid T2
  have U3 := Lib.hid U2
  obtain ⟨VL, hVL⟩ : ∃ V, jV l = V := ⟨_, rfl⟩
  obtain ⟨VM, hVM⟩ : ∃ V, jV m = V := ⟨_, rfl⟩
  rw [hVL] at J1 hj
  rw [hVM] at hjm
  have U4 : Hid (∀ ao c W, Mk W → Er W → TokensAt ao m W → Calls Tryd.prog 13 #[.slice ao k c] W fun e w' => e = .returned (.tuple #[.string (str VM), .int .i64 G]) ∧ Below W.heap.size W w') := Lib.hid (by rw [← hVM]; exact U2)
  have J2 := Lib.hid J1
  have V2 := Lib.hid V1
  have Z2 := Lib.hid Z1
  have HQ2 := Lib.hid hq2
  have HQ3 := Lib.hid hq3
  have HQ4 := Lib.hid hq4
  have HJ := Lib.hid hj
  have HJM := Lib.hid hjm
  have HK := Lib.hid hk
  clear hG h hok S1 hl hTok hl300 J1 T1 hq1 hq2 hq3 hq4 hq U1 U2 U3 X1 V1 T2 Y1 Z1 hj hjm hE hGG hVL hVM hk hn hsh
  by_cases hE0 : E = 0
  · subst hE0
    have Z3 := Lib.hid (Z2.out VL (HJ.out rfl).1)
    by_cases hf : f = 0
    · obtain ⟨_, hq5⟩ := HQ4.out hf
      have ha0 : a = 0 := congrArg (fun q => q.2.1) hq5
      subst hf
      subst ha0
      clear hq5
      rcases HQ2.out rfl with hg | ⟨hg, hs⟩
      · subst hg
        have V3 := Lib.hid (V2.out VM (HJM.out rfl).1)
        go_enter Tryd.func4, Tryd.ntmps4
        go_wp2_with fail
        with_reducible refine (S2.out _ HA.out).mono ?_
        rintro e wz ⟨rfl, rfl⟩
        go_wp2_with fail
        with_reducible refine (J2.out _ (HG.out.keep HB0.out).m (HG.out.keep HB0.out).e HA.out).mono ?_
        rintro e w1 ⟨rfl, q1⟩
        have HB1 := Lib.hid (btr HB0.out q1)
        have HA1 := Lib.hid (HA.out.keep q1)
        clear q1
        go_wp2_with fail
        refine (Z3.out _ (HG.out.keep HB1.out).m (HG.out.keep HB1.out).e).mono ?_
        rintro e w2 ⟨a0, c0, rfl, hT, q2⟩
        have HB2 := Lib.hid (btr HB1.out q2)
        have HA2 := Lib.hid (HA1.out.keep q2)
        have K0 := Lib.hid hT
        clear q2 hT
        go_wp2_with fail
        refine (Y2.out _ _ _ _ _ HA2.out K0.out).mono ?_
        rintro e w3 ⟨rfl, q3⟩
        have HB3 := Lib.hid (btr HB2.out q3)
        clear q3
        go_wp2_with fail
        refine (T3.out _ (HG.out.keep HB3.out).m (HG.out.keep HB3.out).e).mono ?_
        rintro e w4 ⟨a1, c1, rfl, hT, q4⟩
        have HB4 := Lib.hid (btr HB3.out q4)
        have K1 := Lib.hid hT
        clear q4 hT
        go_wp2_with fail
        with_reducible refine (U4.out a1 c1 _ (HG.out.keep HB4.out).m (HG.out.keep HB4.out).e K1.out).mono ?_
        rintro e w5 ⟨rfl, q5⟩
        have HB5 := Lib.hid (btr HB4.out q5)
        have K2 := Lib.hid (K1.out.keep q5)
        clear q5
        go_wp2_with fail
        refine (V3.out _ (HG.out.keep HB5.out).m (HG.out.keep HB5.out).e).mono ?_
        rintro e w6 ⟨a2, c2, rfl, hT, q6⟩
        have HB6 := Lib.hid (btr HB5.out q6)
        have K3 := Lib.hid (K2.out.keep q6)
        have K4 := Lib.hid hT
        clear q6 hT
        go_wp2_with fail
        refine (X2.out _ _ _ _ _ K4.out K3.out).mono ?_
        rintro e w7 ⟨rfl, q7⟩
        have HB7 := Lib.hid (btr HB6.out q7)
        clear q7
        go_wp2_with fail
        with_reducible refine (LV.out _ (HG.out.keep HB7.out)).mono ?_
        rintro e w8 ⟨rfl, q8⟩
        have HB8 := Lib.hid (btr HB7.out q8)
        clear q8
        go_wp2_with fail
        go_ret
        exact ⟨rfl, HB8.out⟩
      · subst hg
        have hsz : (1024 : Int) < (s.size : Int) := by omega
        go_enter Tryd.func4, Tryd.ntmps4
        go_wp2_with fail
        with_reducible refine (S2.out _ HA.out).mono ?_
        rintro e wz ⟨rfl, rfl⟩
        go_wp2_with fail
        with_reducible refine (J2.out _ (HG.out.keep HB0.out).m (HG.out.keep HB0.out).e HA.out).mono ?_
        rintro e w1 ⟨rfl, q1⟩
        have HB1 := Lib.hid (btr HB0.out q1)
        have HA1 := Lib.hid (HA.out.keep q1)
        clear q1
        go_wp2_with fail
        refine (Z3.out _ (HG.out.keep HB1.out).m (HG.out.keep HB1.out).e).mono ?_
        rintro e w2 ⟨a0, c0, rfl, hT, q2⟩
        have HB2 := Lib.hid (btr HB1.out q2)
        have HA2 := Lib.hid (HA1.out.keep q2)
        have K0 := Lib.hid hT
        clear q2 hT
        go_wp2_with fail
        refine (Y2.out _ _ _ _ _ HA2.out K0.out).mono ?_
        rintro e w3 ⟨rfl, q3⟩
        have HB3 := Lib.hid (btr HB2.out q3)
        clear q3
        go_wp2_with fail
        refine (T3.out _ (HG.out.keep HB3.out).m (HG.out.keep HB3.out).e).mono ?_
        rintro e w4 ⟨a1, c1, rfl, hT, q4⟩
        have HB4 := Lib.hid (btr HB3.out q4)
        have K1 := Lib.hid hT
        clear q4 hT
        go_wp2_with fail
        with_reducible refine (U4.out a1 c1 _ (HG.out.keep HB4.out).m (HG.out.keep HB4.out).e K1.out).mono ?_
        rintro e w5 ⟨rfl, q5⟩
        have HB5 := Lib.hid (btr HB4.out q5)
        clear q5
        go_wp2_with fail
        with_reducible refine (LV.out _ (HG.out.keep HB5.out)).mono ?_
        rintro e w6 ⟨rfl, q6⟩
        have HB6 := Lib.hid (btr HB5.out q6)
        clear q6
        go_wp2_with fail
        go_ret
        exact ⟨rfl, HB6.out⟩
    · have hm : m = [] := HQ3.out hf
      have hfb : (f != 0) = true := by rw [bne_iff_ne]; exact hf
      have hk0 : k = 0 := by rw [← HK.out, hm]; rfl
      subst hk0
      clear hm
      go_enter Tryd.func4, Tryd.ntmps4
      go_wp2_with fail
      with_reducible refine (S2.out _ HA.out).mono ?_
      rintro e wz ⟨rfl, rfl⟩
      go_wp2_with fail
      with_reducible refine (J2.out _ (HG.out.keep HB0.out).m (HG.out.keep HB0.out).e HA.out).mono ?_
      rintro e w1 ⟨rfl, q1⟩
      have HB1 := Lib.hid (btr HB0.out q1)
      have HA1 := Lib.hid (HA.out.keep q1)
      clear q1
      go_wp2_with fail
      refine (Z3.out _ (HG.out.keep HB1.out).m (HG.out.keep HB1.out).e).mono ?_
      rintro e w2 ⟨a0, c0, rfl, hT, q2⟩
      have HB2 := Lib.hid (btr HB1.out q2)
      have HA2 := Lib.hid (HA1.out.keep q2)
      have K0 := Lib.hid hT
      clear q2 hT
      go_wp2_with fail
      refine (Y2.out _ _ _ _ _ HA2.out K0.out).mono ?_
      rintro e w3 ⟨rfl, q3⟩
      have HB3 := Lib.hid (btr HB2.out q3)
      clear q3
      go_wp2_with fail
      refine (T3.out _ (HG.out.keep HB3.out).m (HG.out.keep HB3.out).e).mono ?_
      rintro e w4 ⟨a1, c1, rfl, hT, q4⟩
      have HB4 := Lib.hid (btr HB3.out q4)
      have K1 := Lib.hid hT
      clear q4 hT
      go_wp2_with fail
      with_reducible refine (LV.out _ (HG.out.keep HB4.out)).mono ?_
      rintro e w5 ⟨rfl, q5⟩
      have HB5 := Lib.hid (btr HB4.out q5)
      clear q5
      go_wp2_with fail
      go_ret
      exact ⟨rfl, HB5.out⟩
  · have hEb : (E == 0) = false := by rw [beq_eq_false_iff_ne]; exact hE0
    by_cases hf : f = 0
    · obtain ⟨_, hq5⟩ := HQ4.out hf
      have ha0 : a = 0 := congrArg (fun q => q.2.1) hq5
      subst hf
      subst ha0
      clear hq5
      rcases HQ2.out rfl with hg | ⟨hg, hs⟩
      · subst hg
        have V3 := Lib.hid (V2.out VM (HJM.out rfl).1)
        go_enter Tryd.func4, Tryd.ntmps4
        go_wp2_with fail
        with_reducible refine (S2.out _ HA.out).mono ?_
        rintro e wz ⟨rfl, rfl⟩
        go_wp2_with fail
        with_reducible refine (J2.out _ (HG.out.keep HB0.out).m (HG.out.keep HB0.out).e HA.out).mono ?_
        rintro e w1 ⟨rfl, q1⟩
        have HB1 := Lib.hid (btr HB0.out q1)
        clear q1
        go_wp2_with fail
        refine (T3.out _ (HG.out.keep HB1.out).m (HG.out.keep HB1.out).e).mono ?_
        rintro e w2 ⟨a1, c1, rfl, hT, q2⟩
        have HB2 := Lib.hid (btr HB1.out q2)
        have K1 := Lib.hid hT
        clear q2 hT
        go_wp2_with fail
        with_reducible refine (U4.out a1 c1 _ (HG.out.keep HB2.out).m (HG.out.keep HB2.out).e K1.out).mono ?_
        rintro e w3 ⟨rfl, q3⟩
        have HB3 := Lib.hid (btr HB2.out q3)
        have K2 := Lib.hid (K1.out.keep q3)
        clear q3
        go_wp2_with fail
        refine (V3.out _ (HG.out.keep HB3.out).m (HG.out.keep HB3.out).e).mono ?_
        rintro e w4 ⟨a2, c2, rfl, hT, q4⟩
        have HB4 := Lib.hid (btr HB3.out q4)
        have K3 := Lib.hid (K2.out.keep q4)
        have K4 := Lib.hid hT
        clear q4 hT
        go_wp2_with fail
        refine (X2.out _ _ _ _ _ K4.out K3.out).mono ?_
        rintro e w5 ⟨rfl, q5⟩
        have HB5 := Lib.hid (btr HB4.out q5)
        clear q5
        go_wp2_with fail
        with_reducible refine (LV.out _ (HG.out.keep HB5.out)).mono ?_
        rintro e w6 ⟨rfl, q6⟩
        have HB6 := Lib.hid (btr HB5.out q6)
        clear q6
        go_wp2_with fail
        go_ret
        exact ⟨rfl, HB6.out⟩
      · subst hg
        have hsz : (1024 : Int) < (s.size : Int) := by omega
        go_enter Tryd.func4, Tryd.ntmps4
        go_wp2_with fail
        with_reducible refine (S2.out _ HA.out).mono ?_
        rintro e wz ⟨rfl, rfl⟩
        go_wp2_with fail
        with_reducible refine (J2.out _ (HG.out.keep HB0.out).m (HG.out.keep HB0.out).e HA.out).mono ?_
        rintro e w1 ⟨rfl, q1⟩
        have HB1 := Lib.hid (btr HB0.out q1)
        clear q1
        go_wp2_with fail
        refine (T3.out _ (HG.out.keep HB1.out).m (HG.out.keep HB1.out).e).mono ?_
        rintro e w2 ⟨a1, c1, rfl, hT, q2⟩
        have HB2 := Lib.hid (btr HB1.out q2)
        have K1 := Lib.hid hT
        clear q2 hT
        go_wp2_with fail
        with_reducible refine (U4.out a1 c1 _ (HG.out.keep HB2.out).m (HG.out.keep HB2.out).e K1.out).mono ?_
        rintro e w3 ⟨rfl, q3⟩
        have HB3 := Lib.hid (btr HB2.out q3)
        clear q3
        go_wp2_with fail
        with_reducible refine (LV.out _ (HG.out.keep HB3.out)).mono ?_
        rintro e w4 ⟨rfl, q4⟩
        have HB4 := Lib.hid (btr HB3.out q4)
        clear q4
        go_wp2_with fail
        go_ret
        exact ⟨rfl, HB4.out⟩
    · have hm : m = [] := HQ3.out hf
      have hfb : (f != 0) = true := by rw [bne_iff_ne]; exact hf
      have hk0 : k = 0 := by rw [← HK.out, hm]; rfl
      subst hk0
      clear hm
      go_enter Tryd.func4, Tryd.ntmps4
      go_wp2_with fail
      with_reducible refine (S2.out _ HA.out).mono ?_
      rintro e wz ⟨rfl, rfl⟩
      go_wp2_with fail
      with_reducible refine (J2.out _ (HG.out.keep HB0.out).m (HG.out.keep HB0.out).e HA.out).mono ?_
      rintro e w1 ⟨rfl, q1⟩
      have HB1 := Lib.hid (btr HB0.out q1)
      clear q1
      go_wp2_with fail
      refine (T3.out _ (HG.out.keep HB1.out).m (HG.out.keep HB1.out).e).mono ?_
      rintro e w2 ⟨a1, c1, rfl, hT, q2⟩
      have HB2 := Lib.hid (btr HB1.out q2)
      have K1 := Lib.hid hT
      clear q2 hT
      go_wp2_with fail
      with_reducible refine (LV.out _ (HG.out.keep HB2.out)).mono ?_
      rintro e w3 ⟨rfl, q3⟩
      have HB3 := Lib.hid (btr HB2.out q3)
      clear q3
      go_wp2_with fail
      go_ret
      exact ⟨rfl, HB3.out⟩
end Go.Proofs.YtpmappddepkhiaaDoor
