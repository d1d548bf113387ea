/-
  Tokens: contracts of the document's own fits and Join.
-/
import Derived.Test.YtpmappddepkhiaaGreatDoorTRd
import Derived.Test.YtpmappddepkhiaaGreatDoorTQ
namespace Go.Proofs.YtpmappddepkhiaaGreatDoor
open Go Go.RowKit Go.Lib WM TM

set_option maxRecDepth 100000 in
set_option maxHeartbeats 4000000 in
theorem rfits (k ln : Int) (X : ByteArray) (hX : X.size ≤ 2048) (w : World) :
    Calls Tryz.prog 24 #[.agg #[.int .i64 k, .int .i64 ln, .string X]] w fun e w' => e = .returned (.bool (alnB k (byt X))) ∧ Below w.heap.size w w' := by
  have T0 := rtokenize X
  have hxl : (byt X).length ≤ 2048 := by rw [byt_len]; exact hX
  have hone := fun u h => alnB_one (k := k) hxl (u := u) h
  have hoth := alnB_other (k := k) hxl
  have hbad := TZ_bad (l := byt X)
  obtain ⟨q, hq⟩ : ∃ q, TZ (byt X) = q := ⟨_, rfl⟩
  rw [hq] at T0 hone hoth hbad
  have HT := Lib.hid (fun W => T0 W)
  obtain ⟨R, hR⟩ : ∃ R, alnB k (byt X) = R := ⟨_, rfl⟩
  rw [hR] at hone hoth ⊢
  have HX : BoxT (w.alloc (.cells #[.int .i64 k, .int .i64 ln, .string X] 36)) w.heap.size k ln X := BoxT.new w k ln X
  have B0 := Lib.hid (bal (bref w) (.cells #[.int .i64 k, .int .i64 ln, .string X] 36))
  obtain ⟨m, a, b⟩ := q
  have HH : Hid (∀ u, m = [u] → R = (decide (u.1 = k) && decide (u.2.2 = byt X))) := Lib.hid (fun u h => hone u h)
  have HO : Hid (m.length ≠ 1 → R = false) := Lib.hid hoth
  have HBD : Hid (b ≠ 0 → m = []) := Lib.hid hbad
  clear T0 hone hoth hbad hq hR hxl hX
  go_enter Tryz.func24, Tryz.ntmps24
  go_wp2_with fail
  refine (HT.out _).mono ?_
  rintro e w1 ⟨ao, c, rfl, hK, q1⟩
  obtain ⟨x0, x1, x2⟩ := (HX.keep q1).cells
  have s1 := (HX.keep q1).lt
  have B1 := Lib.hid (btr B0.out q1)
  clear q1 HX
  by_cases hb0 : b = 0
  · subst hb0
    by_cases h1 : m.length = 1
    · obtain ⟨u, rfl⟩ : ∃ u, m = [u] := List.length_eq_one_iff.1 h1
      obtain ⟨g, off, rfl, hg, c0, c1, c2⟩ := hK 0 (by simp)
      have HR := Lib.hid (HH.out u rfl)
      obtain ⟨uk, ul, ux⟩ := u
      have c0' : w1.cell? ⟨g, off, none⟩ = some (.int .i64 uk) := by simpa using c0
      have c2' : w1.cell? ⟨g, off + 2, none⟩ = some (.string (str ux)) := by simpa using c2
      have HR2 : Hid (R = (decide (uk = k) && decide (ux = byt X))) := Lib.hid HR.out
      obtain ⟨U, hU⟩ : ∃ U, str ux = U := ⟨_, rfl⟩
      rw [hU] at c2'
      have hUx : byt U = ux := by rw [← hU, byt_str]
      rw [← hUx] at HR2
      clear h1 hK c0 c1 c2 HR HH HO hU hUx
      by_cases hk : uk = k
      · subst hk
        by_cases ht : U = X
        · subst ht
          have HR3 : Hid (R = true) := Lib.hid (by rw [HR2.out]; simp)
          clear HR2
          go_wp2_with fail
          go_quiet (fail)
          go_wp2_with fail
          go_ret
          exact ⟨by rw [HR3.out]; rfl, by first | exact B1.out | exact bdn B1.out _⟩
        · have hne : byt U ≠ byt X := fun e => ht (by rw [← str_byt U, e, str_byt])
          have HR3 : Hid (R = false) := Lib.hid (by rw [HR2.out]; simp [hne])
          have hb : (U.toList == X.toList) = false := by rw [beq_eq_false_iff_ne, toList_data, toList_data]; exact hne
          have hb2 : ¬ U.toList = X.toList := by rw [toList_data, toList_data]; exact hne
          clear HR2 hne ht
          go_wp2_with fail
          go_quiet (fail)
          go_wp2_with fail
          go_ret
          exact ⟨by rw [HR3.out]; rfl, by first | exact B1.out | exact bdn B1.out _⟩
      · have HR3 : Hid (R = false) := Lib.hid (by rw [HR2.out]; simp [hk])
        have hb : (uk == k) = false := by rw [beq_eq_false_iff_ne]; exact hk
        clear HR2
        go_wp2_with fail
        go_quiet (fail)
        go_wp2_with fail
        go_ret
        exact ⟨by rw [HR3.out]; rfl, by first | exact B1.out | exact bdn B1.out _⟩
    · have HR3 : Hid (R = false) := Lib.hid (HO.out h1)
      have hz : ¬ (m.length : Int) = 1 := by omega
      have hb : ((m.length : Int) == 1) = false := by rw [beq_eq_false_iff_ne]; exact hz
      clear h1 hK HH HO
      go_wp2_with fail
      go_quiet (fail)
      go_wp2_with fail
      go_ret
      exact ⟨by rw [HR3.out]; rfl, by first | exact B1.out | exact bdn B1.out _⟩
  · have hm := HBD.out hb0
    have HR3 : Hid (R = false) := Lib.hid (HO.out (by rw [hm]; decide))
    have hbb : (b == 0) = false := by rw [beq_eq_false_iff_ne]; exact hb0
    clear hb0 hK HH HO HBD hm
    go_wp2_with fail
    go_quiet (fail)
    go_wp2_with fail
    go_ret
    exact ⟨by rw [HR3.out]; rfl, by first | exact B1.out | exact bdn B1.out _⟩

theorem sep_len (ln : Int) (b : Bool) (t : TM.Tok) (h : ln ≤ t.2.1) : t.2.1 - ln ≤ ((jSep ln b t).length : Int) := by
  unfold jSep
  split
  · rename_i e; rw [e]; omega
  · rw [List.length_replicate]; omega
theorem line_low (l : List TM.Tok) (k : Nat) (ln tl : Int) (hk : k < l.length) (hx : (l.getD k T0).2.1 = tl) (hln : ln ≤ tl) (h : ∀ i, i < k → (l.getD i T0).2.1 ≤ ln) : ∀ i, i < k + 1 → (l.getD i T0).2.1 ≤ tl := by
  intro i hi
  by_cases e : i = k
  · subst e; rw [hx]; omega
  · have := h i (by omega); omega

set_option maxRecDepth 100000 in
set_option maxHeartbeats 16000000 in
theorem rjoin (ao : Option Addr) (l : List TM.Tok) (c : Nat) (hl : l.length ≤ 1000000) (hok : TokOk l) (w : World) (h : TokensAt ao l w) :
    Calls Tryz.prog 11 #[.slice ao l.length c] w fun e w' => e = .returned (.tuple #[.string (str (jV l)), .int .i64 (jE l)]) ∧ Below w.heap.size w w' := by
  have HA := Lib.hid h
  have HOK := Lib.hid hok
  have AC := Lib.hid (fun k ln X hX W => rfits k ln X hX W)
  obtain ⟨n, hn⟩ : ∃ n, l.length = n := ⟨_, rfl⟩
  have HN := Lib.hid hn
  have JB := Lib.hid (fun h => jE_arg (l := l) h)
  have JG := Lib.hid (fun h h2 => jE_big (l := l) h h2)
  have JO := Lib.hid (fun h h2 => jE_ok (l := l) h h2)
  obtain ⟨J, hJ⟩ : ∃ J, jArg 1 l = J := ⟨_, rfl⟩
  obtain ⟨E, hEE⟩ : ∃ E, jE l = E := ⟨_, rfl⟩
  obtain ⟨V, hV⟩ : ∃ V, jV l = V := ⟨_, rfl⟩
  have HEE := Lib.hid hEE
  have HV := Lib.hid hV
  have HJ := Lib.hid hJ
  rw [hEE, hV]
  rw [hn] at hl ⊢
  clear h hok hn hJ hEE hV
  go_enter Tryz.func11, Tryz.ntmps11
  go_wp2_with fail
  go_loopw [4, 5] (fun x i wr => ∃ (k : Nat) (ln : Int) (out : List UInt8), k ≤ n ∧ i = .int .i64 k ∧ x = .int .i64 ln ∧ 1 ≤ ln ∧ ln ≤ 9223372036854775807 ∧ jArg ln (l.drop k) = J ∧ (∀ i, i < k → (l.getD i T0).2.1 ≤ ln) ∧ out ++ jT ln (decide (k = 0)) (l.drop k) = jT 1 true l ∧ ln ≤ 1 + out.length ∧ Below w.heap.size w wr) (fun _ i _ => n - (RowKit.intOf i).toNat)
  case atStart => exact ⟨0, 1, [], by omega, rfl, rfl, by omega, by omega, HJ.out, fun i hi => absurd hi (Nat.not_lt_zero _), rfl, by simp, bref w⟩
  case round =>
    obtain ⟨k, ln, out, hk, rfl, rfl, h1, h2, hC, hlow, hT, hlo, hB⟩ := hrel
    have HB := Lib.hid hB
    have hsw := hB.size
    by_cases hlt : k < n
    · obtain ⟨b, off, rfl, hb, c0, c1, c2⟩ := HA.out k (by rw [HN.out]; exact hlt)
      have hlk : k < l.length := by rw [HN.out]; exact hlt
      rw [drop_g T0 l k hlk, jArg_cons] at hC
      rw [drop_g T0 l k hlk, jT_cons] at hT
      obtain ⟨o1, o2, o3⟩ := HOK.out _ (getD_mem' T0 l k hlk)
      have hlow2 := fun tl hx hln => line_low l k ln tl hlk hx hln hlow
      obtain ⟨⟨tk, tl, tx⟩, ht⟩ : ∃ x, l.getD k T0 = x := ⟨_, rfl⟩
      rw [ht] at hC hT c0 c1 c2 o1 o2 o3
      have hx : (l.getD k T0).2.1 = tl := by rw [ht]
      obtain ⟨X, hX⟩ : ∃ X, str tx = X := ⟨_, rfl⟩
      have hXx : byt X = tx := by rw [← hX, byt_str]
      simp only [hX] at c0 c1 c2
      simp only [← hXx] at hC hT o3
      rw [byt_len] at o3
      unfold I64 at o1 o2
      simp only at o1 o2 hC
      have c0' := keepc hB c0
      have c1' := keepc hB c1
      have c2' := keepc hB c2
      have hbw : b < wr.heap.size := by omega
      have hkz : (k : Int) < (n : Int) := by omega
      have A0 := fun W => AC.out tk tl X o3 W
      obtain ⟨R, hR⟩ : ∃ R, alnB tk (byt X) = R := ⟨_, rfl⟩
      rw [hR] at hC A0
      have HAL := Lib.hid A0
      have HC := Lib.hid hC
      have HT := Lib.hid hT
      have HL2 := Lib.hid (fun hln => hlow2 tl hx hln)
      clear hC hT hR A0 c0 c1 c2 ht hX hXx hB hlk hlow hlow2 hx
      cases R
      · have HJ2 : Hid (J = false) := Lib.hid (by rw [← HC.out]; rfl)
        go_wp2_with fail
        refine (HAL.out _).mono ?_
        rintro e w1 ⟨rfl, q1⟩
        have Q1 := Lib.hid (btr HB.out q1)
        clear q1
        go_wp2_with fail
        go_ret2
        obtain ⟨z1, z2⟩ := JB.out (by rw [HJ.out, HJ2.out])
        rw [HEE.out] at z1
        rw [HV.out] at z2
        subst z1 z2
        exact ⟨rfl, Q1.out⟩
      · by_cases hln : ln ≤ tl
        · have HC2 : Hid (jArg tl (l.drop (k + 1)) = J) := Lib.hid (by have h5 := HC.out; rwa [decide_eq_true hln, Bool.true_and, Bool.true_and] at h5)
          have HL3 := Lib.hid (HL2.out hln)
          obtain ⟨out2, ho2⟩ : ∃ o2, out ++ (jSep ln (decide (k = 0)) (tk, tl, byt X) ++ byt X) = o2 := ⟨_, rfl⟩
          have HT2 : Hid (out2 ++ jT tl (decide (k + 1 = 0)) (l.drop (k + 1)) = jT 1 true l) := Lib.hid (by
            rw [← HT.out, ← ho2, decide_eq_false (show ¬ (k + 1 = 0) by omega)]
            simp only [List.append_assoc])
          have hlo2 : tl ≤ 1 + (out2.length : Int) := by
            have h5 := sep_len ln (decide (k = 0)) (tk, tl, byt X) hln
            rw [← ho2, List.length_append, List.length_append]
            simp only at h5
            omega
          have hlz : ¬ tl < ln := by omega
          clear HC HT ho2
          go_wp2_with fail
          refine (HAL.out _).mono ?_
          rintro e w1 ⟨rfl, q1⟩
          have Q1 := Lib.hid (btr HB.out q1)
          have d1 := keepc q1 c1'
          have hbw1 : b < w1.heap.size := by have := q1.size; omega
          clear q1
          go_wp2_with fail
          go_roundw
          case rel => exact ⟨k + 1, tl, out2, by omega, by go_num, rfl, by omega, by omega, HC2.out, HL3.out, HT2.out, hlo2, Q1.out⟩
          case measure => simp [RowKit.intOf]; omega
        · have HJ2 : Hid (J = false) := Lib.hid (by rw [← HC.out, decide_eq_false hln]; rfl)
          have hlz : tl < ln := by omega
          clear HC HT
          go_wp2_with fail
          refine (HAL.out _).mono ?_
          rintro e w1 ⟨rfl, q1⟩
          have Q1 := Lib.hid (btr HB.out q1)
          have d1 := keepc q1 c1'
          have hbw1 : b < w1.heap.size := by have := q1.size; omega
          clear q1
          go_wp2_with fail
          go_ret2
          obtain ⟨z1, z2⟩ := JB.out (by rw [HJ.out, HJ2.out])
          rw [HEE.out] at z1
          rw [HV.out] at z2
          subst z1 z2
          exact ⟨rfl, Q1.out⟩
    · have he : n = k := by omega
      subst he
      have hdn : l.drop n = [] := List.drop_eq_nil_of_le (by rw [HN.out]; exact Nat.le_refl _)
      have hJ1 : J = true := by rw [← hC, hdn]; rfl
      subst hJ1
      rw [hdn] at hT
      have hT2 : out = jT 1 true l := by rw [← hT]; show out = out ++ []; rw [List.append_nil]
      rw [hT2] at hlo
      obtain ⟨wl, hwl⟩ : ∃ wl, wl = wr := ⟨_, rfl⟩
      subst hwl
      have HLO := Lib.hid hlow
      clear hC hB hdn hT hT2
      by_cases hbig : 2049 < ln
      · have hbz : (2048 : Int) < ln - 1 := by omega
        have HZ := Lib.hid (JG.out HJ.out (by omega))
        clear hlo hlow hbig
        go_wp2_with fail
        go_ret2
        obtain ⟨z1, z2⟩ := HZ.out
        rw [HEE.out] at z1
        rw [HV.out] at z2
        subst z1 z2
        exact ⟨rfl, HB.out⟩
      · have hbz : ¬ (2048 : Int) < ln - 1 := by omega
        have HL9 : Hid (∀ i, i < n → (l.getD i T0).2.1 ≤ 2049) := Lib.hid (fun i hi => by have := HLO.out i hi; omega)
        clear hlo hlow hbig
        have hTA := HA.out.keep HB.out
        have HTA := Lib.hid hTA
        clear hTA
        go_wp2_with fail
        go_loop [4, 6, 7] (fun x y i => ∃ (k : Nat) (ln : Int) (S : ByteArray), k ≤ n ∧ i = .int .i64 k ∧ x = .int .i64 ln ∧ y = .string S ∧ 1 ≤ ln ∧ ln ≤ 2049 ∧ jArg ln (l.drop k) = true ∧ byt S ++ jT ln (decide (k = 0)) (l.drop k) = jT 1 true l ∧ S.size ≤ 2048) (fun _ _ i => n - (RowKit.intOf i).toNat)
        case atStart => exact ⟨0, 1, ⟨#[]⟩, by omega, rfl, rfl, rfl, by omega, by omega, HJ.out, rfl, by decide⟩
        case round =>
          obtain ⟨k, ln, S, hk, rfl, rfl, rfl, h1, h2, hC, hT, hS⟩ := hrel
          by_cases hlt : k < n
          · have hlk : k < l.length := by rw [HN.out]; exact hlt
            obtain ⟨b, off, rfl, hbw, c0, c1, c2⟩ := HTA.out k hlk
            rw [drop_g T0 l k hlk] at hC hT
            rw [jT_cons] at hT
            obtain ⟨_, hln, hC2⟩ := jArg_true hC
            have htl9 := HL9.out k hlt
            have hsx : ((l.getD k T0).2.2).length ≤ 2048 := (HOK.out _ (getD_mem' T0 l k hlk)).2.2
            obtain ⟨⟨tk, tl, tx⟩, ht⟩ : ∃ x, l.getD k T0 = x := ⟨_, rfl⟩
            rw [ht] at hT c0 c1 c2 hln hC2 htl9 hsx
            obtain ⟨X, hX⟩ : ∃ X, str tx = X := ⟨_, rfl⟩
            have hXx : byt X = tx := by rw [← hX, byt_str]
            simp only [hX] at c0 c1 c2
            simp only [← hXx] at hT hsx
            rw [byt_len] at hsx
            simp only at hln hC2 htl9
            obtain ⟨f, hf⟩ : ∃ f : Nat, tl - ln = (f : Int) := ⟨(tl - ln).toNat, by omega⟩
            rw [jSep_eq ln k f (tk, tl, byt X) hf] at hT
            have hkz : (k : Int) < (n : Int) := by omega
            have hf9 : f ≤ 2048 := by omega
            have HC2 := Lib.hid hC2
            have hlenJ : (jT 1 true l).length = S.size + ((spc f k).length + f) + X.size + (jT tl false (l.drop (k + 1))).length := by
              rw [← hT]
              simp only [List.length_append, List.length_replicate, byt_len]
              omega
            have hrest : ∀ o2, o2 = byt S ++ spc f k ++ List.replicate f 10 ++ byt X → o2 ++ jT tl (decide (k + 1 = 0)) (l.drop (k + 1)) = jT 1 true l := by
              intro o2 ho2
              rw [ho2, ← hT, decide_eq_false (show ¬ (k + 1 = 0) by omega)]
              simp only [List.append_assoc]
            have HRS := Lib.hid hrest
            have HLJ := Lib.hid hlenJ
            clear hrest hlenJ hT hC hC2 ht hX hXx hlk
            by_cases hk0 : 0 < k
            · have hk0z : (0 : Int) < (k : Int) := by omega
              by_cases hf0 : f = 0
              · have htb : (tl == ln) = true := by rw [beq_iff_eq]; omega
                have hsp : spc f k = [32] := by unfold spc; rw [if_pos ⟨by omega, by omega⟩]
                obtain ⟨S1, hS1⟩ : ∃ S1, S ++ ⟨#[32]⟩ = S1 := ⟨_, rfl⟩
                have hs1 : S1.size ≤ 2049 := by rw [← hS1, ByteArray.size_append]; show S.size + 1 ≤ _; omega
                have hb1 : byt S1 = byt S ++ spc f k := by rw [hsp, ← hS1, byt_app]; rfl
                have HB1 := Lib.hid hb1
                have HS1 := Lib.hid hS1
                have hf' := Lib.hid hf
                clear hb1 hS1 hsp hf
                go_wp2_with fail
                go_loop [4, 6] (fun x y => ∃ (g : Nat) (Z : ByteArray), x = .int .i64 (ln + (g : Int)) ∧ y = .string Z ∧ g ≤ f ∧ byt Z = byt S1 ++ List.replicate g 10 ∧ Z.size ≤ 2049 + g) (fun x _ => (tl - RowKit.intOf x).toNat)
                case atStart => exact ⟨0, S1, by simp, by rw [HS1.out], by omega, by simp, by omega⟩
                case round =>
                  obtain ⟨g, Z, rfl, rfl, hg, hZ, hZs⟩ := hrel
                  have HZ0 := Lib.hid hZ
                  clear hZ
                  by_cases hgf : g < f
                  · exact absurd hgf (by omega)
                  · have hge : g = f := by omega
                    subst hge
                    have hgz : ¬ ln + (g : Int) < tl := by have := hf'.out; omega
                    have hEq := HRS.out (byt (Z ++ X)) (by rw [byt_app, HZ0.out, HB1.out])
                    have hsz : (Z ++ X).size = Z.size + X.size := by rw [ByteArray.size_append]
                    have htlg : ln + (g : Int) = tl := by have := hf'.out; omega
                    have HEQ := Lib.hid hEq
                    have HTL := Lib.hid htlg
                    clear hEq htlg
                    by_cases hm : 2048 < (Z ++ X).size
                    · have hmz : (2048 : Int) < ((Z ++ X).size : Int) := by omega
                      have hmy : (2048 : Int) < (Z.size : Int) + (X.size : Int) := by omega
                      have HZ := Lib.hid (JG.out HJ.out (by rw [← HEQ.out, List.length_append, byt_len]; omega))
                      clear hsz hm
                      go_wp2_with fail
                      go_ret2
                      obtain ⟨z1, z2⟩ := HZ.out
                      rw [HEE.out] at z1
                      rw [HV.out] at z2
                      subst z1 z2
                      exact ⟨rfl, HB.out⟩
                    · have hmz : ¬ (2048 : Int) < ((Z ++ X).size : Int) := by omega
                      have hmy : ¬ (2048 : Int) < (Z.size : Int) + (X.size : Int) := by omega
                      have hm2 : (Z ++ X).size ≤ 2048 := by omega
                      clear hsz hm
                      go_wp2_with fail
                      go_round
                      case rel => exact ⟨k + 1, tl, Z ++ X, by omega, by go_num, by rw [HTL.out], rfl, by omega, by omega, HC2.out, HEQ.out, hm2⟩
                      case measure => simp [RowKit.intOf]; omega
              · have htb : (tl == ln) = false := by rw [beq_eq_false_iff_ne]; omega
                have hsp : spc f k = [] := by unfold spc; rw [if_neg (by omega)]
                obtain ⟨S1, hS1⟩ : ∃ S1, S = S1 := ⟨_, rfl⟩
                have hs1 : S1.size ≤ 2049 := by rw [← hS1]; omega
                have hb1 : byt S1 = byt S ++ spc f k := by rw [hsp, ← hS1, List.append_nil]
                have HB1 := Lib.hid hb1
                have HS1 := Lib.hid hS1
                have hf' := Lib.hid hf
                clear hb1 hS1 hsp hf
                go_wp2_with fail
                go_loop [4, 6] (fun x y => ∃ (g : Nat) (Z : ByteArray), x = .int .i64 (ln + (g : Int)) ∧ y = .string Z ∧ g ≤ f ∧ byt Z = byt S1 ++ List.replicate g 10 ∧ Z.size ≤ 2049 + g) (fun x _ => (tl - RowKit.intOf x).toNat)
                case atStart => exact ⟨0, S1, by simp, by rw [HS1.out], by omega, by simp, by omega⟩
                case round =>
                  obtain ⟨g, Z, rfl, rfl, hg, hZ, hZs⟩ := hrel
                  have HZ0 := Lib.hid hZ
                  clear hZ
                  by_cases hgf : g < f
                  · have hgz : ln + (g : Int) < tl := by have := hf'.out; omega
                    have HZ1 : Hid (byt (Z ++ ⟨#[10]⟩) = byt S1 ++ List.replicate (g + 1) 10) := Lib.hid (by
                      rw [byt_app, HZ0.out, List.replicate_succ', List.append_assoc]; rfl)
                    have hZs1 : (Z ++ ⟨#[10]⟩ : ByteArray).size ≤ 2049 + (g + 1) := by rw [ByteArray.size_append]; show Z.size + 1 ≤ _; omega
                    go_wp2_with fail
                    go_round
                    case rel => exact ⟨g + 1, Z ++ ⟨#[10]⟩, by first | go_num | (simp; omega) | (congr 1; omega), rfl, by omega, HZ1.out, hZs1⟩
                    case measure => simp [RowKit.intOf]; omega
                  · have hge : g = f := by omega
                    subst hge
                    have hgz : ¬ ln + (g : Int) < tl := by have := hf'.out; omega
                    have hEq := HRS.out (byt (Z ++ X)) (by rw [byt_app, HZ0.out, HB1.out])
                    have hsz : (Z ++ X).size = Z.size + X.size := by rw [ByteArray.size_append]
                    have htlg : ln + (g : Int) = tl := by have := hf'.out; omega
                    have HEQ := Lib.hid hEq
                    have HTL := Lib.hid htlg
                    clear hEq htlg
                    by_cases hm : 2048 < (Z ++ X).size
                    · have hmz : (2048 : Int) < ((Z ++ X).size : Int) := by omega
                      have hmy : (2048 : Int) < (Z.size : Int) + (X.size : Int) := by omega
                      have HZ := Lib.hid (JG.out HJ.out (by rw [← HEQ.out, List.length_append, byt_len]; omega))
                      clear hsz hm
                      go_wp2_with fail
                      go_ret2
                      obtain ⟨z1, z2⟩ := HZ.out
                      rw [HEE.out] at z1
                      rw [HV.out] at z2
                      subst z1 z2
                      exact ⟨rfl, HB.out⟩
                    · have hmz : ¬ (2048 : Int) < ((Z ++ X).size : Int) := by omega
                      have hmy : ¬ (2048 : Int) < (Z.size : Int) + (X.size : Int) := by omega
                      have hm2 : (Z ++ X).size ≤ 2048 := by omega
                      clear hsz hm
                      go_wp2_with fail
                      go_round
                      case rel => exact ⟨k + 1, tl, Z ++ X, by omega, by go_num, by rw [HTL.out], rfl, by omega, by omega, HC2.out, HEQ.out, hm2⟩
                      case measure => simp [RowKit.intOf]; omega
            · have hk0z : ¬ (0 : Int) < (k : Int) := by omega
              have hsp : spc f k = [] := by unfold spc; rw [if_neg (by omega)]
              obtain ⟨S1, hS1⟩ : ∃ S1, S = S1 := ⟨_, rfl⟩
              have hs1 : S1.size ≤ 2049 := by rw [← hS1]; omega
              have hb1 : byt S1 = byt S ++ spc f k := by rw [hsp, ← hS1, List.append_nil]
              have HB1 := Lib.hid hb1
              have HS1 := Lib.hid hS1
              have hf' := Lib.hid hf
              clear hb1 hS1 hsp hf
              go_wp2_with fail
              go_loop [4, 6] (fun x y => ∃ (g : Nat) (Z : ByteArray), x = .int .i64 (ln + (g : Int)) ∧ y = .string Z ∧ g ≤ f ∧ byt Z = byt S1 ++ List.replicate g 10 ∧ Z.size ≤ 2049 + g) (fun x _ => (tl - RowKit.intOf x).toNat)
              case atStart => exact ⟨0, S1, by simp, by rw [HS1.out], by omega, by simp, by omega⟩
              case round =>
                obtain ⟨g, Z, rfl, rfl, hg, hZ, hZs⟩ := hrel
                have HZ0 := Lib.hid hZ
                clear hZ
                by_cases hgf : g < f
                · have hgz : ln + (g : Int) < tl := by have := hf'.out; omega
                  have HZ1 : Hid (byt (Z ++ ⟨#[10]⟩) = byt S1 ++ List.replicate (g + 1) 10) := Lib.hid (by
                    rw [byt_app, HZ0.out, List.replicate_succ', List.append_assoc]; rfl)
                  have hZs1 : (Z ++ ⟨#[10]⟩ : ByteArray).size ≤ 2049 + (g + 1) := by rw [ByteArray.size_append]; show Z.size + 1 ≤ _; omega
                  go_wp2_with fail
                  go_round
                  case rel => exact ⟨g + 1, Z ++ ⟨#[10]⟩, by first | go_num | (simp; omega) | (congr 1; omega), rfl, by omega, HZ1.out, hZs1⟩
                  case measure => simp [RowKit.intOf]; omega
                · have hge : g = f := by omega
                  subst hge
                  have hgz : ¬ ln + (g : Int) < tl := by have := hf'.out; omega
                  have hEq := HRS.out (byt (Z ++ X)) (by rw [byt_app, HZ0.out, HB1.out])
                  have hsz : (Z ++ X).size = Z.size + X.size := by rw [ByteArray.size_append]
                  have htlg : ln + (g : Int) = tl := by have := hf'.out; omega
                  have HEQ := Lib.hid hEq
                  have HTL := Lib.hid htlg
                  clear hEq htlg
                  by_cases hm : 2048 < (Z ++ X).size
                  · have hmz : (2048 : Int) < ((Z ++ X).size : Int) := by omega
                    have hmy : (2048 : Int) < (Z.size : Int) + (X.size : Int) := by omega
                    have HZ := Lib.hid (JG.out HJ.out (by rw [← HEQ.out, List.length_append, byt_len]; omega))
                    clear hsz hm
                    go_wp2_with fail
                    go_ret2
                    obtain ⟨z1, z2⟩ := HZ.out
                    rw [HEE.out] at z1
                    rw [HV.out] at z2
                    subst z1 z2
                    exact ⟨rfl, HB.out⟩
                  · have hmz : ¬ (2048 : Int) < ((Z ++ X).size : Int) := by omega
                    have hmy : ¬ (2048 : Int) < (Z.size : Int) + (X.size : Int) := by omega
                    have hm2 : (Z ++ X).size ≤ 2048 := by omega
                    clear hsz hm
                    go_wp2_with fail
                    go_round
                    case rel => exact ⟨k + 1, tl, Z ++ X, by omega, by go_num, by rw [HTL.out], rfl, by omega, by omega, HC2.out, HEQ.out, hm2⟩
                    case measure => simp [RowKit.intOf]; omega
          · have he : n = k := by omega
            subst he
            rw [List.drop_eq_nil_of_le (by rw [HN.out]; exact Nat.le_refl _)] at hT
            have hT2 : byt S = jT 1 true l := by rw [← hT]; show byt S = byt S ++ []; rw [List.append_nil]
            have HZ := Lib.hid (JO.out HJ.out (by rw [← hT2, byt_len]; exact hS))
            have HTT := Lib.hid hT2
            clear hC hT hT2
            go_wp2_with fail
            go_ret2
            obtain ⟨z1, z2⟩ := HZ.out
            rw [HEE.out] at z1
            rw [HV.out] at z2
            subst z1 z2
            exact ⟨by rw [← HTT.out, str_byt]; rfl, HB.out⟩
end Go.Proofs.YtpmappddepkhiaaGreatDoor
