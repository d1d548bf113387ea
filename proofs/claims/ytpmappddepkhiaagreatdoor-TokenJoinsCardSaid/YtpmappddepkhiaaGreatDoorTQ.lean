/-
  Tokens: a contract of package token's Join.
-/
import Derived.Test.YtpmappddepkhiaaGreatDoorTP
import Derived.Test.YtpmappddepkhiaaGreatDoorTB
namespace Go.Proofs.YtpmappddepkhiaaGreatDoor
open Go Go.RowKit Go.Lib WM TM

theorem jArg_cons (ln : Int) (t : Tok) (r : List Tok) : jArg ln (t :: r) = (alnB t.1 t.2.2 && decide (ln ≤ t.2.1) && jArg t.2.1 r) := rfl
theorem jT_cons (ln : Int) (b : Bool) (t : Tok) (r : List Tok) : jT ln b (t :: r) = jSep ln b t ++ t.2.2 ++ jT t.2.1 false r := rfl
theorem jArg_true {ln : Int} {t : Tok} {r : List Tok} (h : jArg ln (t :: r) = true) : alnB t.1 t.2.2 = true ∧ ln ≤ t.2.1 ∧ jArg t.2.1 r = true := by
  rw [jArg_cons, Bool.and_eq_true, Bool.and_eq_true, decide_eq_true_eq] at h
  exact ⟨h.1.1, h.1.2, h.2⟩
/-- The space ahead of a token. -/
def spc (f k : Nat) : List UInt8 := if f = 0 ∧ 0 < k then [32] else []
theorem jSep_eq (ln : Int) (k f : Nat) (t : Tok) (h : t.2.1 - ln = (f : Int)) : jSep ln (decide (k = 0)) t = spc f k ++ List.replicate f 10 := by
  unfold jSep spc
  by_cases hf : f = 0
  · subst hf
    rw [if_pos (by omega)]
    by_cases hk : k = 0
    · subst hk; rfl
    · rw [decide_eq_false hk, if_neg (by decide), if_pos ⟨rfl, by omega⟩]; rfl
  · rw [if_neg (by omega), if_neg (fun e => hf e.1), List.nil_append]
    congr 1
    omega
theorem jE_arg {l : List Tok} (h : jArg 1 l = false) : jE l = 1 ∧ jV l = [] := by
  have e : jE l = 1 := by unfold jE; rw [h]; rfl
  exact ⟨e, by unfold jV; rw [e]; rfl⟩
theorem jE_big {l : List Tok} (h : jArg 1 l = true) (h2 : 2048 < (jT 1 true l).length) : jE l = 5 ∧ jV l = [] := by
  have e : jE l = 5 := by unfold jE; rw [h, if_pos rfl, if_neg (by omega)]
  exact ⟨e, by unfold jV; rw [e]; rfl⟩
theorem jE_ok {l : List Tok} (h : jArg 1 l = true) (h2 : (jT 1 true l).length ≤ 2048) : jE l = 0 ∧ jV l = jT 1 true l := by
  have e : jE l = 0 := by unfold jE; rw [h, if_pos rfl, if_pos h2]
  exact ⟨e, by unfold jV; rw [e]; rfl⟩

set_option maxRecDepth 100000 in
set_option maxHeartbeats 16000000 in
theorem mjoin (ao : Option Addr) (l : List Tok) (c : Nat) (hl : l.length ≤ 1000000) (hok : TokOk l) (w : World) (hM : Mk w) (hE : Er w) (h : TokensAt ao l w) :
    Calls Tryz.prog 10 #[.slice ao l.length c] w fun e w' => e = .returned (.tuple #[.string (str (jV l)), .int .i64 (jE l)]) ∧ Below w.heap.size w w' := by
  have HA := Lib.hid h
  have HOK := Lib.hid hok
  have HM := Lib.hid hM
  have HE := Lib.hid hE
  have AC := Lib.hid (fun k ln X hX W hM hE => malone k ln X hX W hM hE)
  have WC := Lib.hid (fun B out s W h hl => bwrite B out s W h hl)
  have LC := Lib.hid (fun B out W h => blen B out W h)
  have SC := Lib.hid (fun B out W h => bstring B out W h)
  have RC := Lib.hid (fun k hk W => mrepeat ⟨#[10]⟩ 10 k rfl hk W)
  obtain ⟨n, hn⟩ : ∃ n, l.length = n := ⟨_, rfl⟩
  have HN := Lib.hid hn
  have JB := Lib.hid (fun h => jE_arg (l := l) h)
  have JG := Lib.hid (fun h h2 => jE_big (l := l) h h2)
  have JO := Lib.hid (fun h h2 => jE_ok (l := l) h h2)
  obtain ⟨J, hJ⟩ : ∃ J, jArg 1 l = J := ⟨_, rfl⟩
  obtain ⟨E, hEE⟩ : ∃ E, jE l = E := ⟨_, rfl⟩
  obtain ⟨V, hV⟩ : ∃ V, jV l = V := ⟨_, rfl⟩
  have HEE := Lib.hid hEE
  have HV := Lib.hid hV
  have HJ := Lib.hid hJ
  rw [hEE, hV]
  rw [hn] at hl ⊢
  clear h hok hM hE hn hJ hEE hV
  go_enter Tryz.func10, Tryz.ntmps10
  go_wp2_with fail
  go_loopw [4, 13] (fun x i wr => ∃ (k : Nat) (ln : Int), k ≤ n ∧ i = .int .i64 k ∧ x = .int .i64 ln ∧ 1 ≤ ln ∧ ln ≤ 9223372036854775807 ∧ jArg ln (l.drop k) = J ∧ Below w.heap.size w wr) (fun _ i _ => n - (RowKit.intOf i).toNat)
  case atStart => exact ⟨0, 1, by omega, rfl, rfl, by omega, by omega, HJ.out, bref w⟩
  case round =>
    obtain ⟨k, ln, hk, rfl, rfl, h1, h2, hC, hB⟩ := hrel
    have HB := Lib.hid hB
    have hsw := hB.size
    by_cases hlt : k < n
    · obtain ⟨b, off, rfl, hb, c0, c1, c2⟩ := HA.out k (by rw [HN.out]; exact hlt)
      have hlk : k < l.length := by rw [HN.out]; exact hlt
      rw [drop_g T0 l k hlk, jArg_cons] at hC
      obtain ⟨o1, o2, o3⟩ := HOK.out _ (getD_mem' T0 l k hlk)
      obtain ⟨⟨tk, tl, tx⟩, ht⟩ : ∃ x, l.getD k T0 = x := ⟨_, rfl⟩
      rw [ht] at hC c0 c1 c2 o1 o2 o3
      obtain ⟨X, hX⟩ : ∃ X, str tx = X := ⟨_, rfl⟩
      have hXx : byt X = tx := by rw [← hX, byt_str]
      simp only [hX] at c0 c1 c2
      simp only [← hXx] at hC o3
      rw [byt_len] at o3
      unfold I64 at o1 o2
      simp only at o1 o2 hC
      have c0' := keepc hB c0
      have c1' := keepc hB c1
      have c2' := keepc hB c2
      have hbw : b < wr.heap.size := by omega
      have hkz : (k : Int) < (n : Int) := by omega
      have A0 := fun W hM hE => AC.out tk tl X o3 W hM hE
      have HX : BoxT (wr.alloc (.cells #[.int .i64 tk, .int .i64 tl, .string X] 36)) wr.heap.size tk tl X := BoxT.new wr tk tl X
      have B0 := Lib.hid (bal (bref wr) (.cells #[.int .i64 tk, .int .i64 tl, .string X] 36))
      obtain ⟨R, hR⟩ : ∃ R, alnB tk (byt X) = R := ⟨_, rfl⟩
      rw [hR] at hC A0
      have HAL := Lib.hid A0
      have HC := Lib.hid hC
      clear hC hR A0 c0 c1 c2 ht hX hXx hB hlk
      cases R
      · have HJ2 : Hid (J = false) := Lib.hid (by rw [← HC.out]; rfl)
        go_wp2_with fail
        refine (HAL.out _ (HM.out.keep (btr HB.out B0.out)) (HE.out.keep (btr HB.out B0.out))).mono ?_
        rintro e w1 ⟨rfl, q1⟩
        have Q1 := Lib.hid (btr (btr HB.out B0.out) q1)
        clear q1
        go_wp2_with fail
        go_ret2
        obtain ⟨z1, z2⟩ := JB.out (by rw [HJ.out, HJ2.out])
        rw [HEE.out] at z1
        rw [HV.out] at z2
        subst z1 z2
        exact ⟨rfl, Q1.out⟩
      · by_cases hln : ln ≤ tl
        · have HC2 : Hid (jArg tl (l.drop (k + 1)) = J) := Lib.hid (by have h5 := HC.out; rwa [decide_eq_true hln, Bool.true_and, Bool.true_and] at h5)
          have hlz : ¬ tl < ln := by omega
          clear HC
          go_wp2_with fail
          refine (HAL.out _ (HM.out.keep (btr HB.out B0.out)) (HE.out.keep (btr HB.out B0.out))).mono ?_
          rintro e w1 ⟨rfl, q1⟩
          have Q1 := Lib.hid (btr (btr HB.out B0.out) q1)
          obtain ⟨x0, x1, x2⟩ := (HX.keep q1).cells
          have s1 := (HX.keep q1).lt
          clear q1 HX
          go_wp2_with fail
          go_roundw
          case rel => exact ⟨k + 1, tl, by omega, by go_num, rfl, by omega, by omega, HC2.out, Q1.out⟩
          case measure => simp [RowKit.intOf]; omega
        · have HJ2 : Hid (J = false) := Lib.hid (by rw [← HC.out, decide_eq_false hln]; rfl)
          have hlz : tl < ln := by omega
          clear HC
          go_wp2_with fail
          refine (HAL.out _ (HM.out.keep (btr HB.out B0.out)) (HE.out.keep (btr HB.out B0.out))).mono ?_
          rintro e w1 ⟨rfl, q1⟩
          have Q1 := Lib.hid (btr (btr HB.out B0.out) q1)
          obtain ⟨x0, x1, x2⟩ := (HX.keep q1).cells
          have s1 := (HX.keep q1).lt
          clear q1 HX
          go_wp2_with fail
          go_ret2
          obtain ⟨z1, z2⟩ := JB.out (by rw [HJ.out, HJ2.out])
          rw [HEE.out] at z1
          rw [HV.out] at z2
          subst z1 z2
          exact ⟨rfl, Q1.out⟩
    · have he : n = k := by omega
      subst he
      have hJ1 : J = true := by rw [← hC, List.drop_eq_nil_of_le (by rw [HN.out]; exact Nat.le_refl _)]; rfl
      subst hJ1
      obtain ⟨wl, hwl⟩ : ∃ wl, wl = wr := ⟨_, rfl⟩
      subst hwl
      have NB := IsB.new wl
      have HNB := Lib.hid NB
      have B0 := Lib.hid (bal (bref wl) (.cells #[.pointer none, .slice none 0 0] 47))
      clear hC hB NB h1 h2
      go_wp2_with fail
      go_loopw [4, 31] (fun x i wr => ∃ (k : Nat) (ln : Int) (out : List UInt8), k ≤ n ∧ i = .int .i64 k ∧ x = .int .i64 ln ∧ 1 ≤ ln ∧ ln ≤ 9223372036854775807 ∧ jArg ln (l.drop k) = true ∧ out ++ jT ln (decide (k = 0)) (l.drop k) = jT 1 true l ∧ out.length ≤ 2048 ∧ IsB wl.heap.size out wr ∧ Below wl.heap.size wl wr) (fun _ i _ => n - (RowKit.intOf i).toNat)
      case atStart => exact ⟨0, 1, [], by omega, rfl, rfl, by omega, by omega, HJ.out, rfl, by simp, HNB.out, B0.out⟩
      case round =>
        obtain ⟨k, ln, out, hk, rfl, rfl, h1, h2, hC, hT, hout, hI, hB⟩ := hrel
        have HB2 := Lib.hid hB
        have HI := Lib.hid hI
        have hIl := hI.lt
        have hsw2 := hB.size
        by_cases hlt : k < n
        · have hlk : k < l.length := by rw [HN.out]; exact hlt
          have hTA := HA.out.keep (btr HB.out hB)
          obtain ⟨b, off, rfl, hb, c0, c1, c2⟩ := hTA k hlk
          rw [drop_g T0 l k hlk] at hC hT
          rw [jT_cons] at hT
          obtain ⟨o1, o2, o3⟩ := HOK.out _ (getD_mem' T0 l k hlk)
          obtain ⟨_, hln, hC2⟩ := jArg_true hC
          obtain ⟨⟨tk, tl, tx⟩, ht⟩ : ∃ x, l.getD k T0 = x := ⟨_, rfl⟩
          rw [ht] at hT c0 c1 c2 o1 o2 o3 hln hC2
          obtain ⟨X, hX⟩ : ∃ X, str tx = X := ⟨_, rfl⟩
          have hXx : byt X = tx := by rw [← hX, byt_str]
          simp only [hX] at c0 c1 c2
          simp only [← hXx] at hT o3
          rw [byt_len] at o3
          unfold I64 at o1 o2
          simp only at o1 o2 hln hC2
          obtain ⟨f, hf⟩ : ∃ f : Nat, tl - ln = (f : Int) := ⟨(tl - ln).toNat, by omega⟩
          rw [jSep_eq ln k f (tk, tl, byt X) hf] at hT
          have hsub : wrap64 (tl - ln) = (f : Int) := by unfold wrap64; omega
          have hkz : (k : Int) < (n : Int) := by omega
          have HX : BoxT (wr.alloc (.cells #[.int .i64 tk, .int .i64 tl, .string X] 36)) wr.heap.size tk tl X := BoxT.new wr tk tl X
          have Ba := bal (bref wr) (.cells #[.int .i64 tk, .int .i64 tl, .string X] 36)
          have HIa := Lib.hid (hI.keep Ba)
          have Bb := Lib.hid (btr hB Ba)
          have HC2 := Lib.hid hC2
          clear hTA hC hC2 ht hX hXx hlk
          have hlenJ : (jT 1 true l).length = out.length + ((spc f k).length + f) + X.size + (jT tl false (l.drop (k + 1))).length := by
            rw [← hT]
            simp only [List.length_append, List.length_replicate, byt_len]
            omega
          by_cases hf2 : 2048 < f
          · have hfz : (2048 : Int) < (f : Int) := by omega
            have HZ := Lib.hid (JG.out HJ.out (by rw [hlenJ]; omega))
            clear hT hlenJ hf2 hI hB
            go_wp2_with fail
            go_ret2
            obtain ⟨z1, z2⟩ := HZ.out
            rw [HEE.out] at z1
            rw [HV.out] at z2
            subst z1 z2
            exact ⟨rfl, btr HB.out Bb.out⟩
          · have hfz : ¬ (2048 : Int) < (f : Int) := by omega
            have hrest : ∀ o2, o2 = out ++ spc f k ++ List.replicate f 10 ++ byt X → o2 ++ jT tl (decide (k + 1 = 0)) (l.drop (k + 1)) = jT 1 true l := by
              intro o2 ho2
              rw [ho2, ← hT, decide_eq_false (by omega)]
              simp only [List.append_assoc]
            have HRS := Lib.hid hrest
            clear hrest hf2
            by_cases hf0 : f = 0
            · subst hf0
              by_cases hk0 : 0 < k
              · have hk0z : (0 : Int) < (k : Int) := by omega
                have hsp : spc 0 k = [32] := by unfold spc; rw [if_pos ⟨by omega, by omega⟩]
                have hRS2 := HRS.out
                rw [hsp] at hRS2
                clear hT hI hB
                obtain ⟨o1, ho1⟩ : ∃ o1, out ++ [32] = o1 := ⟨_, rfl⟩
                have hl1 : o1.length ≤ 2049 := by rw [← ho1, List.length_append]; show _ + 1 ≤ _; omega
                rw [ho1] at hRS2
                have HRS2 := Lib.hid hRS2
                have HO1 := Lib.hid ho1
                clear hRS2 ho1
                go_wp2_with fail
                refine (WC.out _ out ⟨#[32]⟩ _ HIa.out (by show out.length + 1 ≤ _; omega)).mono ?_
                rintro e w0 ⟨rfl, i0, q0, k0⟩
                have I0 : Hid (IsB wl.heap.size o1 w0) := Lib.hid (by rw [← HO1.out]; exact i0)
                have Q0 := Lib.hid (Bb.out.trans q0)
                have HX := HX.kept (by omega) k0
                have sz0 : wr.heap.size < w0.heap.size := HX.lt
                clear i0 q0 k0
                go_wp2_with fail
                refine (RC.out 0 (by omega) _).mono ?_
                rintro e w1 ⟨rfl, q1⟩
                have I1 := Lib.hid (I0.out.keep q1)
                have Q1 := Lib.hid (btr Q0.out q1)
                have HX := HX.keep q1
                have sz1 : wr.heap.size < w1.heap.size := HX.lt
                have hrp : (str (List.replicate 0 (10 : UInt8))).size = 0 := by rw [str_size, List.length_replicate]
                have hrb : byt (str (List.replicate 0 (10 : UInt8))) = List.replicate 0 10 := byt_str _
                obtain ⟨Z, hZ⟩ : ∃ Z, str (List.replicate 0 (10 : UInt8)) = Z := ⟨_, rfl⟩
                rw [hZ] at hrp hrb
                have hl2 : o1.length + Z.size ≤ 5000 := by omega
                have hl3 : (o1 ++ byt Z).length + X.size ≤ 10000 := by rw [List.length_append, byt_len]; omega
                have HRB := Lib.hid hrb
                have HZ2 := Lib.hid hZ
                clear q1 hrp hrb hZ
                go_wp2_with fail
                refine (WC.out _ o1 (str (List.replicate 0 (10 : UInt8))) _ I1.out (by rw [HZ2.out]; omega)).mono ?_
                rintro e w2 ⟨rfl, i2, q2, k2⟩
                have I2 : Hid (IsB wl.heap.size (o1 ++ byt Z) w2) := Lib.hid (by rw [← HZ2.out]; exact i2)
                have Q2 := Lib.hid (Q1.out.trans q2)
                have HX := HX.kept (by omega) k2
                have sz2 : wr.heap.size < w2.heap.size := HX.lt
                obtain ⟨x0, x1, x2⟩ := HX.cells
                clear i2 q2 k2
                go_wp2_with fail
                refine (WC.out _ (o1 ++ byt Z) X _ I2.out (by omega)).mono ?_
                rintro e w3 ⟨rfl, i3, q3, k3⟩
                obtain ⟨o2, ho2⟩ : ∃ o2, o1 ++ byt Z ++ byt X = o2 := ⟨_, rfl⟩
                rw [ho2] at i3
                have hEq := HRS2.out o2 (by rw [← ho2, HRB.out])
                have I3 := Lib.hid i3
                have Q3 := Lib.hid (Q2.out.trans q3)
                have HX := HX.kept (by omega) k3
                have sz3 : wr.heap.size < w3.heap.size := HX.lt
                have HEQ := Lib.hid hEq
                clear i3 q3 k3 x0 x1 x2 hEq ho2
                obtain ⟨x0, x1, x2⟩ := HX.cells
                go_wp2_with fail
                refine (LC.out _ _ _ I3.out).mono ?_
                rintro e wz ⟨rfl, rfl⟩
                by_cases hm : 2048 < o2.length
                · have hmz : (2048 : Int) < (o2.length : Int) := by omega
                  have HZ := Lib.hid (JG.out HJ.out (by rw [← HEQ.out, List.length_append]; omega))
                  clear hlenJ hm
                  go_wp2_with fail
                  go_ret2
                  obtain ⟨z1, z2⟩ := HZ.out
                  rw [HEE.out] at z1
                  rw [HV.out] at z2
                  subst z1 z2
                  exact ⟨rfl, btr HB.out Q3.out⟩
                · have hmz : ¬ (2048 : Int) < (o2.length : Int) := by omega
                  clear hlenJ
                  go_wp2_with fail
                  go_roundw
                  case rel => exact ⟨k + 1, tl, o2, by omega, by go_num, rfl, by omega, by omega, HC2.out, HEQ.out, by omega, I3.out, Q3.out⟩
                  case measure => simp [RowKit.intOf]; omega
              · have hk0z : ¬ (0 : Int) < (k : Int) := by omega
                have hsp : spc 0 k = [] := by unfold spc; rw [if_neg (by omega)]
                have hRS2 := HRS.out
                rw [hsp] at hRS2
                clear hT hI hB
                obtain ⟨o1, ho1⟩ : ∃ o1, out = o1 := ⟨_, rfl⟩
                have hl1 : o1.length ≤ 2049 := by rw [← ho1]; omega
                rw [List.append_nil, ho1] at hRS2
                have HRS2 := Lib.hid hRS2
                have I0 : Hid (IsB wl.heap.size o1 _) := Lib.hid (by rw [← ho1]; exact HIa.out)
                clear hRS2 ho1
                go_wp2_with fail
                refine (RC.out 0 (by omega) _).mono ?_
                rintro e w1 ⟨rfl, q1⟩
                have I1 := Lib.hid (I0.out.keep q1)
                have Q1 := Lib.hid (btr Bb.out q1)
                have HX := HX.keep q1
                have sz1 : wr.heap.size < w1.heap.size := HX.lt
                have hrp : (str (List.replicate 0 (10 : UInt8))).size = 0 := by rw [str_size, List.length_replicate]
                have hrb : byt (str (List.replicate 0 (10 : UInt8))) = List.replicate 0 10 := byt_str _
                obtain ⟨Z, hZ⟩ : ∃ Z, str (List.replicate 0 (10 : UInt8)) = Z := ⟨_, rfl⟩
                rw [hZ] at hrp hrb
                have hl2 : o1.length + Z.size ≤ 5000 := by omega
                have hl3 : (o1 ++ byt Z).length + X.size ≤ 10000 := by rw [List.length_append, byt_len]; omega
                have HRB := Lib.hid hrb
                have HZ2 := Lib.hid hZ
                clear q1 hrp hrb hZ
                go_wp2_with fail
                refine (WC.out _ o1 (str (List.replicate 0 (10 : UInt8))) _ I1.out (by rw [HZ2.out]; omega)).mono ?_
                rintro e w2 ⟨rfl, i2, q2, k2⟩
                have I2 : Hid (IsB wl.heap.size (o1 ++ byt Z) w2) := Lib.hid (by rw [← HZ2.out]; exact i2)
                have Q2 := Lib.hid (Q1.out.trans q2)
                have HX := HX.kept (by omega) k2
                have sz2 : wr.heap.size < w2.heap.size := HX.lt
                obtain ⟨x0, x1, x2⟩ := HX.cells
                clear i2 q2 k2
                go_wp2_with fail
                refine (WC.out _ (o1 ++ byt Z) X _ I2.out (by omega)).mono ?_
                rintro e w3 ⟨rfl, i3, q3, k3⟩
                obtain ⟨o2, ho2⟩ : ∃ o2, o1 ++ byt Z ++ byt X = o2 := ⟨_, rfl⟩
                rw [ho2] at i3
                have hEq := HRS2.out o2 (by rw [← ho2, HRB.out])
                have I3 := Lib.hid i3
                have Q3 := Lib.hid (Q2.out.trans q3)
                have HX := HX.kept (by omega) k3
                have sz3 : wr.heap.size < w3.heap.size := HX.lt
                have HEQ := Lib.hid hEq
                clear i3 q3 k3 x0 x1 x2 hEq ho2
                obtain ⟨x0, x1, x2⟩ := HX.cells
                go_wp2_with fail
                refine (LC.out _ _ _ I3.out).mono ?_
                rintro e wz ⟨rfl, rfl⟩
                by_cases hm : 2048 < o2.length
                · have hmz : (2048 : Int) < (o2.length : Int) := by omega
                  have HZ := Lib.hid (JG.out HJ.out (by rw [← HEQ.out, List.length_append]; omega))
                  clear hlenJ hm
                  go_wp2_with fail
                  go_ret2
                  obtain ⟨z1, z2⟩ := HZ.out
                  rw [HEE.out] at z1
                  rw [HV.out] at z2
                  subst z1 z2
                  exact ⟨rfl, btr HB.out Q3.out⟩
                · have hmz : ¬ (2048 : Int) < (o2.length : Int) := by omega
                  clear hlenJ
                  go_wp2_with fail
                  go_roundw
                  case rel => exact ⟨k + 1, tl, o2, by omega, by go_num, rfl, by omega, by omega, HC2.out, HEQ.out, by omega, I3.out, Q3.out⟩
                  case measure => simp [RowKit.intOf]; omega
            · have hf0z : ((f : Int) == 0) = false := by rw [beq_eq_false_iff_ne]; omega
              have hsp : spc f k = [] := by unfold spc; rw [if_neg (by omega)]
              have hRS2 := HRS.out
              rw [hsp] at hRS2
              clear hT hI hB
              obtain ⟨o1, ho1⟩ : ∃ o1, out = o1 := ⟨_, rfl⟩
              have hl1 : o1.length ≤ 2049 := by rw [← ho1]; omega
              rw [List.append_nil, ho1] at hRS2
              have HRS2 := Lib.hid hRS2
              have I0 : Hid (IsB wl.heap.size o1 _) := Lib.hid (by rw [← ho1]; exact HIa.out)
              clear hRS2 ho1
              go_wp2_with fail
              refine (RC.out f (by omega) _).mono ?_
              rintro e w1 ⟨rfl, q1⟩
              have I1 := Lib.hid (I0.out.keep q1)
              have Q1 := Lib.hid (btr Bb.out q1)
              have HX := HX.keep q1
              have sz1 : wr.heap.size < w1.heap.size := HX.lt
              have hrp : (str (List.replicate f (10 : UInt8))).size = f := by rw [str_size, List.length_replicate]
              have hrb : byt (str (List.replicate f (10 : UInt8))) = List.replicate f 10 := byt_str _
              obtain ⟨Z, hZ⟩ : ∃ Z, str (List.replicate f (10 : UInt8)) = Z := ⟨_, rfl⟩
              rw [hZ] at hrp hrb
              have hl2 : o1.length + Z.size ≤ 5000 := by omega
              have hl3 : (o1 ++ byt Z).length + X.size ≤ 10000 := by rw [List.length_append, byt_len]; omega
              have HRB := Lib.hid hrb
              have HZ2 := Lib.hid hZ
              clear q1 hrp hrb hZ
              go_wp2_with fail
              refine (WC.out _ o1 (str (List.replicate f (10 : UInt8))) _ I1.out (by rw [HZ2.out]; omega)).mono ?_
              rintro e w2 ⟨rfl, i2, q2, k2⟩
              have I2 : Hid (IsB wl.heap.size (o1 ++ byt Z) w2) := Lib.hid (by rw [← HZ2.out]; exact i2)
              have Q2 := Lib.hid (Q1.out.trans q2)
              have HX := HX.kept (by omega) k2
              have sz2 : wr.heap.size < w2.heap.size := HX.lt
              obtain ⟨x0, x1, x2⟩ := HX.cells
              clear i2 q2 k2
              go_wp2_with fail
              refine (WC.out _ (o1 ++ byt Z) X _ I2.out (by omega)).mono ?_
              rintro e w3 ⟨rfl, i3, q3, k3⟩
              obtain ⟨o2, ho2⟩ : ∃ o2, o1 ++ byt Z ++ byt X = o2 := ⟨_, rfl⟩
              rw [ho2] at i3
              have hEq := HRS2.out o2 (by rw [← ho2, HRB.out])
              have I3 := Lib.hid i3
              have Q3 := Lib.hid (Q2.out.trans q3)
              have HX := HX.kept (by omega) k3
              have sz3 : wr.heap.size < w3.heap.size := HX.lt
              have HEQ := Lib.hid hEq
              clear i3 q3 k3 x0 x1 x2 hEq ho2
              obtain ⟨x0, x1, x2⟩ := HX.cells
              go_wp2_with fail
              refine (LC.out _ _ _ I3.out).mono ?_
              rintro e wz ⟨rfl, rfl⟩
              by_cases hm : 2048 < o2.length
              · have hmz : (2048 : Int) < (o2.length : Int) := by omega
                have HZ := Lib.hid (JG.out HJ.out (by rw [← HEQ.out, List.length_append]; omega))
                clear hlenJ hm
                go_wp2_with fail
                go_ret2
                obtain ⟨z1, z2⟩ := HZ.out
                rw [HEE.out] at z1
                rw [HV.out] at z2
                subst z1 z2
                exact ⟨rfl, btr HB.out Q3.out⟩
              · have hmz : ¬ (2048 : Int) < (o2.length : Int) := by omega
                clear hlenJ
                go_wp2_with fail
                go_roundw
                case rel => exact ⟨k + 1, tl, o2, by omega, by go_num, rfl, by omega, by omega, HC2.out, HEQ.out, by omega, I3.out, Q3.out⟩
                case measure => simp [RowKit.intOf]; omega
        · have he : n = k := by omega
          subst he
          rw [List.drop_eq_nil_of_le (by rw [HN.out]; exact Nat.le_refl _)] at hT
          have hT2 : out = jT 1 true l := by rw [← hT]; show out = out ++ []; rw [List.append_nil]
          have HZ := Lib.hid (JO.out HJ.out (by rw [← hT2]; exact hout))
          have HTT := Lib.hid hT2
          clear hC hT hI hB hT2
          go_wp2_with fail
          refine (SC.out _ _ _ HI.out).mono ?_
          rintro e w1 ⟨rfl, q1⟩
          have Q1 := Lib.hid (HB2.out.trans q1)
          clear q1
          go_wp2_with fail
          go_ret2
          obtain ⟨z1, z2⟩ := HZ.out
          rw [HEE.out] at z1
          rw [HV.out] at z2
          subst z1 z2
          exact ⟨by rw [HTT.out]; rfl, btr HB.out Q1.out⟩
end Go.Proofs.YtpmappddepkhiaaGreatDoor
