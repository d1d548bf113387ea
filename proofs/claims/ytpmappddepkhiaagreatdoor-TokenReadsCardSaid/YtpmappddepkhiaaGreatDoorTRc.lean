/-
  Tokens: a contract of the document's own Token.
-/
import Derived.Test.YtpmappddepkhiaaGreatDoorTRb
import Derived.Test.YtpmappddepkhiaaGreatDoorTE
namespace Go.Proofs.YtpmappddepkhiaaGreatDoor
open Go Go.RowKit Go.Lib WM TM

theorem quiet_left {P : Program} {f : FuncId} {args : Array Value} {w : World} {n : Nat} {v : Value}
    (h : Calls P f args (w.drewN n) fun e w' => e = .returned v ∧ w.drewN n = w') : Calls P f args (w.drewN n) fun e w'' => e = .returned v ∧ ∃ m, w'' = w.drewN m :=
  h.mono fun _ _ ⟨he, hm⟩ => ⟨he, n, hm.symm⟩
theorem hd_drop {s : ByteArray} {a : Nat} (h : a < s.size) : hd ((byt s).drop a) = s[a] := by
  rw [drop_at h]; rfl
theorem cut_mid (s : ByteArray) (a n : Nat) : byt (s.extract a (a + n)) = ((byt s).drop a).take n := by
  rw [str_cut, byt_str]
  show ((byt s).take (a + n)).drop a = _
  rw [List.take_drop]
theorem tx_cut (s : ByteArray) (a : Nat) : ((byt s).drop a).take (tx ((byt s).drop a)).length = tx ((byt s).drop a) := tx_take _

set_option maxRecDepth 100000 in
set_option maxHeartbeats 8000000 in
theorem rtoken (s : ByteArray) (a : Nat) (ha : a < s.size) (hs : s.size ≤ 2048) (w : World) :
    Calls Tryz.prog 18 #[.string s, .int .i64 (a : Int)] w fun e w' => (∃ (k : Int) (X : ByteArray), e = .returned (.tuple #[.agg #[.int .i64 k, .int .i64 0, .string X], .int .i64 (err ((byt s).drop a))]) ∧ (err ((byt s).drop a) = 0 → k = knd ((byt s).drop a) ∧ byt X = tx ((byt s).drop a))) ∧ Below w.heap.size w w' := by
  have haz : (a : Int) < (s.size : Int) := by omega
  have L0 := fun W => rletter s[a] W
  have D0 := fun W => rdigit s[a] W
  have hh := hd_drop ha
  have hlen : ((byt s).drop a).length = s.size - a := by rw [List.length_drop, byt_len]
  have EW := fun W => rendW s a (by omega) (by omega) W
  have EN := fun W => rendN s a (by omega) (by omega) W
  have MK := fun W => rmark s a ha (by omega) W
  have c1 := cut_mid s a
  rw [← hh] at L0 D0
  obtain ⟨L, hL⟩ : ∃ L, (byt s).drop a = L := ⟨_, rfl⟩
  rw [hL] at hh hlen EW EN MK c1 L0 D0 ⊢
  rw [hh] at L0 D0
  cases hl : isL s[a]
  · rw [hl] at L0
    have HL0 := Lib.hid L0
    have gl : isL (hd L) = false := by rw [hh]; exact hl
    cases hd0 : dig s[a]
    · -- a mark
      rw [hd0] at D0
      have HD0 := Lib.hid D0
      have gd : dig (hd L) = false := by rw [hh]; exact hd0
      have htx : tx L = L.take (mrk L) := by unfold tx; rw [gl, gd]; rfl
      have herr : err L = if mrk L = 0 then 2 else 0 := by unfold err; rw [gl, gd]; rfl
      have hknd : knd L = 4 := by unfold knd; rw [gl, gd]; rfl
      have hml := mrk_le L
      have hcx := c1 (mrk L)
      rw [← htx] at hcx
      obtain ⟨M, hM⟩ : ∃ M, mrk L = M := ⟨_, rfl⟩
      rw [hM] at MK herr hml hcx
      have HMK := Lib.hid MK
      by_cases hM0 : M = 0
      · rw [if_pos hM0] at herr
        rw [herr]
        subst hM0
        clear MK L0 D0 EW EN c1 hl hd0 gl gd htx hknd hcx hM hL hlen hh herr
        go_enter Tryz.func18, Tryz.ntmps18
        go_wp2_with fail
        refine (HL0.out _).mono ?_
        rintro e w1 ⟨rfl, rfl⟩
        go_wp2_with fail
        refine (HD0.out _).mono ?_
        rintro e w1 ⟨rfl, rfl⟩
        have HB := Own3.new w (.int .i64 0) (.int .i64 0) (.string ⟨#[]⟩) 36
        have B0 := Lib.hid (bal (bref w) (.cells #[.int .i64 0, .int .i64 0, .string ⟨#[]⟩] 36))
        go_wp2_with fail
        refine (HMK.out _).mono ?_
        rintro e w1 ⟨rfl, q1⟩
        have X1 := HB.keep q1
        have Q1 := Lib.hid (btr B0.out q1)
        have s1 := X1.lt
        obtain ⟨x0, x1, x2, x3, x4, x5⟩ := X1
        clear q1 HB
        go_wp2_with fail
        refine bodyPost_ret (v := .tuple #[.agg #[.int .i64 0, .int .i64 0, .string ⟨#[]⟩], .int .i64 2]) (by simp [results, Tryz.results18, go_sem, set_same, x0, x1, x2]) rfl ⟨⟨_, _, rfl, fun h => absurd h (by decide)⟩, ?_⟩
        (repeat (first | exact Q1.out | refine bdn ?_ _ | refine bdr ?_ | refine bal ?_ _ | refine bset ?_ (by simp; done) _))
      · rw [if_neg hM0] at herr
        rw [herr, hknd]
        have hMb : ((M : Int) == 0) = false := by rw [beq_eq_false_iff_ne]; omega
        have hM2 : a + M ≤ s.size := by omega
        have hMz : (a : Int) + (M : Int) ≤ (s.size : Int) := by omega
        have hMn : ((a : Int) + (M : Int)).toNat = a + M := by omega
        obtain ⟨X, hX⟩ : ∃ X, s.extract a (a + M) = X := ⟨_, rfl⟩
        rw [hX] at hcx
        have HCX := Lib.hid hcx
        have hMs : M ≤ 2048 := by omega
        clear MK L0 D0 EW EN c1 hl hd0 gl gd htx hknd hcx hM hL hlen hh herr hml
        go_enter Tryz.func18, Tryz.ntmps18
        go_wp2_with fail
        refine (HL0.out _).mono ?_
        rintro e w1 ⟨rfl, rfl⟩
        go_wp2_with fail
        refine (HD0.out _).mono ?_
        rintro e w1 ⟨rfl, rfl⟩
        have HB := Own3.new w (.int .i64 0) (.int .i64 0) (.string ⟨#[]⟩) 36
        have B0 := Lib.hid (bal (bref w) (.cells #[.int .i64 0, .int .i64 0, .string ⟨#[]⟩] 36))
        go_wp2_with fail
        refine (HMK.out _).mono ?_
        rintro e w1 ⟨rfl, q1⟩
        have X1 := HB.keep q1
        have Q1 := Lib.hid (btr B0.out q1)
        have s1 := X1.lt
        obtain ⟨x0, x1, x2, x3, x4, x5⟩ := X1
        clear q1 HB
        go_wp2_with fail
        refine bodyPost_ret (v := .tuple #[.agg #[.int .i64 4, .int .i64 0, .string X], .int .i64 0]) (by simp [results, Tryz.results18, go_sem, set_same, x0, x1, x2]) rfl ⟨⟨_, _, rfl, fun _ => ⟨rfl, HCX.out⟩⟩, ?_⟩
        (repeat (first | exact Q1.out | refine bdn ?_ _ | refine bdr ?_ | refine bal ?_ _ | refine bset ?_ (by simp; done) _))
    · -- a number
      rw [hd0] at D0
      have HD0 := Lib.hid D0
      have gd : dig (hd L) = true := by rw [hh]; exact hd0
      have htx : tx L = L.takeWhile isN := by unfold tx; rw [gl, gd]; rfl
      have herr : err L = nerr (tx L) := by unfold err; rw [gl, gd]; rfl
      have hknd : knd L = if numl (tx L) = true then 2 else 3 := by unfold knd; rw [gl, gd]; rfl
      have hsl := sp_le isN L
      have hcx := c1 (sp isN L)
      rw [take_sp, ← htx] at hcx
      obtain ⟨M, hM⟩ : ∃ M, sp isN L = M := ⟨_, rfl⟩
      rw [hM] at EN hsl hcx
      have HEN := Lib.hid EN
      have hM2 : a + M ≤ s.size := by omega
      have hMz : (((a + M : Nat) : Int)) ≤ (s.size : Int) := by omega
      have hMz2 : (a : Int) ≤ ((a + M : Nat) : Int) := by omega
      obtain ⟨G, hG⟩ : ∃ G, a + M = G := ⟨_, rfl⟩
      rw [hG] at HEN hM2 hMz hMz2 hcx
      obtain ⟨X, hX⟩ : ∃ X, s.extract a G = X := ⟨_, rfl⟩
      have hXs : X.size ≤ 2048 := by rw [← hX, ByteArray.size_extract]; omega
      rw [hX] at hcx
      rw [← hcx] at herr hknd
      have hXl := byt_len X
      have hXn : byt X ≠ [] := by
        rw [hcx, htx]
        have : L = s[a] :: (byt s).drop (a + 1) := by rw [← hL]; exact drop_at ha
        rw [this, tw_cons_pos _ _ _ (dig_N _ hd0)]; simp
      have HCX := Lib.hid hcx
      have P0 := fun W => rplain X (by omega) W
      have G0 := fun W => rgreat X W
      have F0 := fun W => rform X (by omega) W
      have R0 := fun W => rrate X (by omega) W
      rw [frm_ok] at F0
      have hnp := numl_pln (byt X)
      have hne : (byt X).isEmpty = false := by
        cases hb : byt X with
        | nil => exact absurd hb hXn
        | cons c t => rfl
      rw [hne, hXl] at hnp
      obtain ⟨P, hP⟩ : ∃ P, pln (byt X) = P := ⟨_, rfl⟩
      rw [hP] at P0 hnp
      have HP := Lib.hid P0
      clear MK L0 D0 EW EN c1 hl hd0 gl gd htx hM hL hlen hh hsl hG hne hXn P0
      cases hn : numl (byt X)
      · rw [hn] at hnp
        have hPb : ((P : Int) == (X.size : Int)) = false := by
          rw [beq_eq_false_iff_ne]
          intro e
          rw [decide_eq_true (by omega : P = X.size)] at hnp
          exact absurd hnp (by decide)
        rw [hn, if_neg (by decide)] at hknd
        have herr2 : err L = if rE (byt X) = 0 then 0 else if rE (byt X) = 1 then 6 else 2 := by rw [herr]; unfold nerr; rw [hn]; rfl
        cases hok : rOk (byt X)
        · have hE2 : rE (byt X) = 2 := by unfold rE; rw [hok]; rfl
          rw [hE2, if_neg (by decide), if_neg (by decide)] at herr2
          rw [herr2]
          rw [hok] at F0
          have HF := Lib.hid F0
          clear hnp hn hknd herr herr2 hok hE2 F0 G0 R0 hP hcx
          go_enter Tryz.func18, Tryz.ntmps18
          go_wp2_with fail
          refine (HL0.out _).mono ?_
          rintro e w1 ⟨rfl, rfl⟩
          go_wp2_with fail
          refine (HD0.out _).mono ?_
          rintro e w1 ⟨rfl, rfl⟩
          go_wp2_with fail
          refine (HEN.out _).mono ?_
          rintro e w1 ⟨rfl, rfl⟩
          go_wp2_with fail
          go_quiet ((go_at_call 40; with_reducible refine quiet_left (HP.out _)))
          go_wp2_with fail
          refine (HF.out _).mono ?_
          rintro e w1 ⟨rfl, rfl⟩
          go_wp2_with fail
          refine bodyPost_ret (v := .tuple #[.agg #[.int .i64 3, .int .i64 0, .string X], .int .i64 2]) (by simp [results, Tryz.results18, go_sem, set_same]) rfl ⟨⟨_, _, rfl, fun h => absurd h (by decide)⟩, ?_⟩
          (repeat (first | exact bref _ | refine bdn ?_ _ | refine bdr ?_ | refine bal ?_ _ | refine bset ?_ (by simp; done) _))
        · rw [hok] at F0
          have HF := Lib.hid F0
          obtain ⟨V, hV⟩ : ∃ V, rV (byt X) = V := ⟨_, rfl⟩
          by_cases hE0 : rE (byt X) = 0
          · rw [hE0, if_pos rfl] at herr2
            rw [hV, hE0] at R0
            have HR := Lib.hid R0
            rw [herr2, hknd]
            clear hnp hn hknd herr herr2 hok hE0 F0 G0 R0 hP hcx hV
            go_enter Tryz.func18, Tryz.ntmps18
            go_wp2_with fail
            refine (HL0.out _).mono ?_
            rintro e w1 ⟨rfl, rfl⟩
            go_wp2_with fail
            refine (HD0.out _).mono ?_
            rintro e w1 ⟨rfl, rfl⟩
            go_wp2_with fail
            refine (HEN.out _).mono ?_
            rintro e w1 ⟨rfl, rfl⟩
            go_wp2_with fail
            go_quiet ((go_at_call 40; with_reducible refine quiet_left (HP.out _)))
            go_wp2_with fail
            refine (HF.out _).mono ?_
            rintro e w1 ⟨rfl, rfl⟩
            go_wp2_with fail
            refine (HR.out _).mono ?_
            rintro e w1 ⟨rfl, rfl⟩
            go_wp2_with fail
            refine bodyPost_ret (v := .tuple #[.agg #[.int .i64 3, .int .i64 0, .string X], .int .i64 0]) (by simp [results, Tryz.results18, go_sem, set_same]) rfl ⟨⟨_, _, rfl, fun _ => ⟨rfl, HCX.out⟩⟩, ?_⟩
            (repeat (first | exact bref _ | refine bdn ?_ _ | refine bdr ?_ | refine bal ?_ _ | refine bset ?_ (by simp; done) _))
          · have hE1 : rE (byt X) = 1 := by
              unfold rE at hE0 ⊢
              rw [hok, if_pos rfl] at hE0 ⊢
              by_cases q : rN (byt X) ≤ 1000000
              · rw [if_pos q] at hE0; exact absurd rfl hE0
              · rw [if_neg q]
            rw [hE1, if_neg (by decide), if_pos rfl] at herr2
            rw [hV, hE1] at R0
            have HR := Lib.hid R0
            rw [herr2]
            clear hnp hn hknd herr herr2 hok hE0 hE1 F0 G0 R0 hP hcx hV
            go_enter Tryz.func18, Tryz.ntmps18
            go_wp2_with fail
            refine (HL0.out _).mono ?_
            rintro e w1 ⟨rfl, rfl⟩
            go_wp2_with fail
            refine (HD0.out _).mono ?_
            rintro e w1 ⟨rfl, rfl⟩
            go_wp2_with fail
            refine (HEN.out _).mono ?_
            rintro e w1 ⟨rfl, rfl⟩
            go_wp2_with fail
            go_quiet ((go_at_call 40; with_reducible refine quiet_left (HP.out _)))
            go_wp2_with fail
            refine (HF.out _).mono ?_
            rintro e w1 ⟨rfl, rfl⟩
            go_wp2_with fail
            refine (HR.out _).mono ?_
            rintro e w1 ⟨rfl, rfl⟩
            go_wp2_with fail
            refine bodyPost_ret (v := .tuple #[.agg #[.int .i64 3, .int .i64 0, .string X], .int .i64 6]) (by simp [results, Tryz.results18, go_sem, set_same]) rfl ⟨⟨_, _, rfl, fun h => absurd h (by decide)⟩, ?_⟩
            (repeat (first | exact bref _ | refine bdn ?_ _ | refine bdr ?_ | refine bal ?_ _ | refine bset ?_ (by simp; done) _))
      · rw [hn] at hnp
        have hPe : P = X.size := by
          have h1 := hnp.symm
          rw [Bool.and_eq_true, decide_eq_true_eq] at h1
          exact h1.1
        have hPb : ((P : Int) == (X.size : Int)) = true := by rw [beq_iff_eq]; omega
        rw [hn, if_pos rfl] at hknd
        rw [grt2_eq hn, grt_eq hn] at G0
        by_cases hg : 9223372036854775807 < dval (byt X)
        · rw [decide_eq_true hg] at G0
          have HG := Lib.hid G0
          have herr2 : err L = 6 := by rw [herr]; unfold nerr; rw [hn, if_pos rfl, if_neg (by omega)]
          rw [herr2]
          clear hnp hn hknd herr herr2 F0 G0 R0 hP hcx hg hPe
          go_enter Tryz.func18, Tryz.ntmps18
          go_wp2_with fail
          refine (HL0.out _).mono ?_
          rintro e w1 ⟨rfl, rfl⟩
          go_wp2_with fail
          refine (HD0.out _).mono ?_
          rintro e w1 ⟨rfl, rfl⟩
          go_wp2_with fail
          refine (HEN.out _).mono ?_
          rintro e w1 ⟨rfl, rfl⟩
          go_wp2_with fail
          go_quiet ((go_at_call 40; with_reducible refine quiet_left (HP.out _)))
          go_wp2_with fail
          refine (HG.out _).mono ?_
          rintro e w1 ⟨rfl, rfl⟩
          go_wp2_with fail
          refine bodyPost_ret (v := .tuple #[.agg #[.int .i64 2, .int .i64 0, .string X], .int .i64 6]) (by simp [results, Tryz.results18, go_sem, set_same]) rfl ⟨⟨_, _, rfl, fun h => absurd h (by decide)⟩, ?_⟩
          (repeat (first | exact bref _ | refine bdn ?_ _ | refine bdr ?_ | refine bal ?_ _ | refine bset ?_ (by simp; done) _))
        · rw [decide_eq_false hg] at G0
          have HG := Lib.hid G0
          have herr2 : err L = 0 := by rw [herr]; unfold nerr; rw [hn, if_pos rfl, if_pos (by omega)]
          rw [herr2, hknd]
          clear hnp hn hknd herr herr2 F0 G0 R0 hP hcx hg hPe
          go_enter Tryz.func18, Tryz.ntmps18
          go_wp2_with fail
          refine (HL0.out _).mono ?_
          rintro e w1 ⟨rfl, rfl⟩
          go_wp2_with fail
          refine (HD0.out _).mono ?_
          rintro e w1 ⟨rfl, rfl⟩
          go_wp2_with fail
          refine (HEN.out _).mono ?_
          rintro e w1 ⟨rfl, rfl⟩
          go_wp2_with fail
          go_quiet ((go_at_call 40; with_reducible refine quiet_left (HP.out _)))
          go_wp2_with fail
          refine (HG.out _).mono ?_
          rintro e w1 ⟨rfl, rfl⟩
          go_wp2_with fail
          refine bodyPost_ret (v := .tuple #[.agg #[.int .i64 2, .int .i64 0, .string X], .int .i64 0]) (by simp [results, Tryz.results18, go_sem, set_same]) rfl ⟨⟨_, _, rfl, fun _ => ⟨rfl, HCX.out⟩⟩, ?_⟩
          (repeat (first | exact bref _ | refine bdn ?_ _ | refine bdr ?_ | refine bal ?_ _ | refine bset ?_ (by simp; done) _))
  · -- a word or a name
    rw [hl] at L0
    have HL0 := Lib.hid L0
    have gl : isL (hd L) = true := by rw [hh]; exact hl
    have htx : tx L = L.takeWhile isW := by unfold tx; rw [gl]; rfl
    have herr : err L = nmerr (tx L) := by unfold err; rw [gl]; rfl
    have hknd : knd L = if wrd (tx L) = true then 5 else 1 := by unfold knd; rw [gl]; rfl
    have hsl := sp_le isW L
    have hcx := c1 (sp isW L)
    rw [take_sp, ← htx] at hcx
    obtain ⟨M, hM⟩ : ∃ M, sp isW L = M := ⟨_, rfl⟩
    rw [hM] at EW hsl hcx
    have HEW := Lib.hid EW
    have hM2 : a + M ≤ s.size := by omega
    have hMz : (((a + M : Nat) : Int)) ≤ (s.size : Int) := by omega
    have hMz2 : (a : Int) ≤ ((a + M : Nat) : Int) := by omega
    obtain ⟨G, hG⟩ : ∃ G, a + M = G := ⟨_, rfl⟩
    rw [hG] at HEW hM2 hMz hMz2 hcx
    obtain ⟨X, hX⟩ : ∃ X, s.extract a G = X := ⟨_, rfl⟩
    rw [hX] at hcx
    rw [← hcx] at herr hknd
    have hXl := byt_len X
    have HCX := Lib.hid hcx
    have W0 := fun W => rword X W
    clear MK L0 D0 EW EN c1 hl gl htx hM hL hlen hh hsl hG
    cases hw : wrd (byt X)
    · rw [hw] at W0
      have HW := Lib.hid W0
      rw [hw, if_neg (by decide)] at hknd
      by_cases h16 : 16 < X.size
      · have h16z : (16 : Int) < (X.size : Int) := by omega
        have herr2 : err L = 4 := by rw [herr]; unfold nmerr; rw [hw, if_neg (by decide), hXl, if_pos h16]
        rw [herr2]
        clear hknd herr herr2 hw W0 hcx hXl h16
        go_enter Tryz.func18, Tryz.ntmps18
        go_wp2_with fail
        refine (HL0.out _).mono ?_
        rintro e w1 ⟨rfl, rfl⟩
        go_wp2_with fail
        refine (HEW.out _).mono ?_
        rintro e w1 ⟨rfl, rfl⟩
        have HB := Own3.new w (.int .i64 0) (.int .i64 0) (.string ⟨#[]⟩) 36
        have HT := Own3.new (w.alloc (.cells #[.int .i64 0, .int .i64 0, .string ⟨#[]⟩] 36)) (.int .i64 1) (.int .i64 0) (.string X) 36
        have B0 := bal (bref w) (.cells #[.int .i64 0, .int .i64 0, .string ⟨#[]⟩] 36)
        have B00 := bal (bref (w.alloc (.cells #[.int .i64 0, .int .i64 0, .string ⟨#[]⟩] 36))) (.cells #[.int .i64 1, .int .i64 0, .string X] 36)
        have HBk := HB.keep B00
        have B1 := Lib.hid (btr B0 B00)
        clear HB B0 B00
        go_wp2_with fail
        refine (HW.out _).mono ?_
        rintro e w1 ⟨rfl, q1⟩
        have X1 := HBk.keep q1
        have Y1 := HT.keep q1
        have Q1 := Lib.hid (btr B1.out q1)
        have s1 := X1.lt
        have s2 := Y1.lt
        rw [show (w.alloc (.cells #[.int .i64 0, .int .i64 0, .string ⟨#[]⟩] 36)).heap.size = w.heap.size + 1 from by simp] at Y1 s2
        obtain ⟨x0, x1, x2, x3, x4, x5⟩ := X1
        obtain ⟨y0, y1, y2, y3, y4, y5⟩ := Y1
        clear q1 HBk HT
        go_wp2_with fail
        refine bodyPost_ret (v := .tuple #[.agg #[.int .i64 1, .int .i64 0, .string X], .int .i64 4]) (by simp [results, Tryz.results18, go_sem, set_same, x0, x1, x2]) rfl ⟨⟨_, _, rfl, fun h => absurd h (by decide)⟩, ?_⟩
        (repeat (first | exact Q1.out | refine bdn ?_ _ | refine bdr ?_ | refine bal ?_ _ | refine bset ?_ (by simp; done) _))
      · have h16z : ¬ (16 : Int) < (X.size : Int) := by omega
        have herr2 : err L = 0 := by rw [herr]; unfold nmerr; rw [hw, if_neg (by decide), hXl, if_neg h16]
        rw [herr2, hknd]
        clear hknd herr herr2 hw W0 hcx hXl h16
        go_enter Tryz.func18, Tryz.ntmps18
        go_wp2_with fail
        refine (HL0.out _).mono ?_
        rintro e w1 ⟨rfl, rfl⟩
        go_wp2_with fail
        refine (HEW.out _).mono ?_
        rintro e w1 ⟨rfl, rfl⟩
        have HB := Own3.new w (.int .i64 0) (.int .i64 0) (.string ⟨#[]⟩) 36
        have HT := Own3.new (w.alloc (.cells #[.int .i64 0, .int .i64 0, .string ⟨#[]⟩] 36)) (.int .i64 1) (.int .i64 0) (.string X) 36
        have B0 := bal (bref w) (.cells #[.int .i64 0, .int .i64 0, .string ⟨#[]⟩] 36)
        have B00 := bal (bref (w.alloc (.cells #[.int .i64 0, .int .i64 0, .string ⟨#[]⟩] 36))) (.cells #[.int .i64 1, .int .i64 0, .string X] 36)
        have HBk := HB.keep B00
        have B1 := Lib.hid (btr B0 B00)
        clear HB B0 B00
        go_wp2_with fail
        refine (HW.out _).mono ?_
        rintro e w1 ⟨rfl, q1⟩
        have X1 := HBk.keep q1
        have Y1 := HT.keep q1
        have Q1 := Lib.hid (btr B1.out q1)
        have s1 := X1.lt
        have s2 := Y1.lt
        rw [show (w.alloc (.cells #[.int .i64 0, .int .i64 0, .string ⟨#[]⟩] 36)).heap.size = w.heap.size + 1 from by simp] at Y1 s2
        obtain ⟨x0, x1, x2, x3, x4, x5⟩ := X1
        obtain ⟨y0, y1, y2, y3, y4, y5⟩ := Y1
        clear q1 HBk HT
        go_wp2_with fail
        refine bodyPost_ret (v := .tuple #[.agg #[.int .i64 1, .int .i64 0, .string X], .int .i64 0]) (by simp [results, Tryz.results18, go_sem, set_same, x0, x1, x2]) rfl ⟨⟨_, _, rfl, fun _ => ⟨rfl, HCX.out⟩⟩, ?_⟩
        (repeat (first | exact Q1.out | refine bdn ?_ _ | refine bdr ?_ | refine bal ?_ _ | refine bset ?_ (by simp; done) _))
    · rw [hw] at W0
      have HW := Lib.hid W0
      rw [hw, if_pos rfl] at hknd
      have herr2 : err L = 0 := by rw [herr]; unfold nmerr; rw [hw]; rfl
      rw [herr2, hknd]
      clear hknd herr herr2 hw W0 hcx hXl
      go_enter Tryz.func18, Tryz.ntmps18
      go_wp2_with fail
      refine (HL0.out _).mono ?_
      rintro e w1 ⟨rfl, rfl⟩
      go_wp2_with fail
      refine (HEW.out _).mono ?_
      rintro e w1 ⟨rfl, rfl⟩
      have HB := Own3.new w (.int .i64 0) (.int .i64 0) (.string ⟨#[]⟩) 36
      have HT := Own3.new (w.alloc (.cells #[.int .i64 0, .int .i64 0, .string ⟨#[]⟩] 36)) (.int .i64 1) (.int .i64 0) (.string X) 36
      have B0 := bal (bref w) (.cells #[.int .i64 0, .int .i64 0, .string ⟨#[]⟩] 36)
      have B00 := bal (bref (w.alloc (.cells #[.int .i64 0, .int .i64 0, .string ⟨#[]⟩] 36))) (.cells #[.int .i64 1, .int .i64 0, .string X] 36)
      have HBk := HB.keep B00
      have B1 := Lib.hid (btr B0 B00)
      clear HB B0 B00
      go_wp2_with fail
      refine (HW.out _).mono ?_
      rintro e w1 ⟨rfl, q1⟩
      have X1 := HBk.keep q1
      have Y1 := HT.keep q1
      have Q1 := Lib.hid (btr B1.out q1)
      have s1 := X1.lt
      have s2 := Y1.lt
      rw [show (w.alloc (.cells #[.int .i64 0, .int .i64 0, .string ⟨#[]⟩] 36)).heap.size = w.heap.size + 1 from by simp] at Y1 s2
      obtain ⟨x0, x1, x2, x3, x4, x5⟩ := X1
      obtain ⟨y0, y1, y2, y3, y4, y5⟩ := Y1
      clear q1 HBk HT
      go_wp2_with fail
      refine bodyPost_ret (v := .tuple #[.agg #[.int .i64 5, .int .i64 0, .string X], .int .i64 0]) (by simp [results, Tryz.results18, go_sem, set_same, x0, x1, x2]) rfl ⟨⟨_, _, rfl, fun _ => ⟨rfl, HCX.out⟩⟩, ?_⟩
      (repeat (first | exact Q1.out | refine bdn ?_ _ | refine bdr ?_ | refine bal ?_ _ | refine bset ?_ (by simp; done) _))
end Go.Proofs.YtpmappddepkhiaaGreatDoor
