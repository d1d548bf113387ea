/-
  Tokens: a contract of package token's Rate.
-/
import Derived.Test.YtcnnkobiijhegaaDoorTC
namespace Go.Proofs.YtcnnkobiijhegaaDoor
open Go Go.RowKit Go.Lib WM TM

/-- The library's error of the range is one. -/
def Er (w : World) : Prop := ∃ tp p, w.var? Tryd.prog "strconv.ErrRange" = some #[.iface tp p]
theorem gEr : ∃ g, Tryd.prog.globalNamed "strconv.ErrRange" = some g := ⟨4, by kernel_rfl⟩
theorem Er.keep {w w' : World} (h : Er w) (hb : Below w.heap.size w w') : Er w' := by
  obtain ⟨tp, p, h⟩ := h
  obtain ⟨g, hg⟩ := gEr
  refine ⟨tp, p, ?_⟩
  unfold World.var? at *
  rw [hg] at h ⊢
  simp only [Option.bind_some] at h ⊢
  have hlt : g < w.heap.size := by
    rcases Nat.lt_or_ge g w.heap.size with c | c
    · exact c
    · rw [Array.getElem?_eq_none c] at h; simp at h
  rw [hb.block _ hlt]
  exact h
theorem mrepeat (s : ByteArray) (c : UInt8) (k : Nat) (hs : s = ⟨#[c]⟩) (hk : k ≤ 10000) (w : World) :
    Calls Tryd.prog 66 #[.string s, .int .i64 k] w fun e w' => e = .returned (.string (str (List.replicate k c))) ∧ Below w.heap.size w w' := by
  have h1 : s.size = 1 := by rw [hs]; rfl
  have h2 : s.data.toList = [c] := by rw [hs]
  refine (Tryd.strings_Repeat s k w (by omega) (by rw [h1]; omega)).mono fun e w' ⟨he, hw⟩ => ⟨?_, hw⟩
  rw [he, h2, rep_one]; rfl
theorem ratoi (l : List UInt8) (hs : l ≠ []) (ha : allDig l = true) (hl : l.length ≤ 281474976710656) (w : World) (hE : Er w) :
    Calls Tryd.prog 65 #[.string (str l)] w fun e w' => (∃ v er, e = .returned (.tuple #[.int .i64 v, er]) ∧ ((dval l ≤ 9223372036854775807 ∧ v = (dval l : Int) ∧ er = .nilIface) ∨ (¬ dval l ≤ 9223372036854775807 ∧ ∃ t p, er = .iface t p))) ∧ Below w.heap.size w w' := by
  have h0 := atoi_dig l hs ha
  by_cases h : dval l ≤ 9223372036854775807
  · rw [if_pos h] at h0
    refine (Tryd.strconv_Atoi_ok (str l) (by rw [str_size]; omega) _ (by rw [str_list]; exact h0) w).mono fun e w' ⟨he, hw⟩ => ⟨⟨_, _, he, Or.inl ⟨h, rfl, rfl⟩⟩, ?_⟩
    rcases hw with rfl | ⟨t, rfl⟩
    · exact bref _
    · exact Lib.bytesWorld_below _ _ _
  · rw [if_neg h] at h0
    obtain ⟨tp, p, hv⟩ := hE
    refine (Tryd.strconv_Atoi_range_var (str l) (by rw [str_size]; omega) (by rw [str_list]; exact h0) tp p w hv).mono fun e w' ⟨N, he, _, _, hw⟩ => ⟨⟨_, _, he, Or.inr ⟨h, _, _, rfl⟩⟩, hw⟩

set_option maxRecDepth 100000 in
set_option maxHeartbeats 4000000 in
theorem mrate (s : ByteArray) (hs : s.size ≤ 281474976710600) (w : World) (hE : Er w) :
    Calls Tryd.prog 53 #[.string s] w fun e w' => e = .returned (.tuple #[.int .i64 ((rV (byt s) : Nat) : Int), .int .i64 (rE (byt s))]) ∧ Below w.heap.size w w' := by
  obtain ⟨l, hl⟩ : ∃ l, byt s = l := ⟨_, rfl⟩
  have hlen : l.length = s.size := by rw [← hl]; exact byt_len s
  have CS := fun W => Tryd.strings_CutSuffix s ⟨#[37]⟩ W (by omega)
  have e1 : s.data.toList = l := hl
  have e2 : (⟨#[37]⟩ : ByteArray).data.toList = [37] := rfl
  rw [e1, e2] at CS
  rw [hl]
  have HE := Lib.hid hE
  clear hE
  cases h1 : hasSuffix l [37]
  · have er : rE l = 2 := by unfold rE rOk; rw [h1]; rfl
    have ev : rV l = 0 := by unfold rV; rw [er]; rfl
    rw [h1] at CS
    have HS := Lib.hid CS
    rw [er, ev]
    clear CS h1 er ev e1 hl
    go_enter Tryd.func53, Tryd.ntmps53
    go_wp2_with fail
    refine (HS.out _).mono ?_
    rintro e w1 ⟨rfl, rfl⟩
    go_wp2_with fail
    go_ret2
    exact ⟨rfl, bref _⟩
  have et : (⟨(trimSuffix l [37]).toArray⟩ : ByteArray) = str (vl l) := by
    unfold trimSuffix; rw [h1]; rfl
  rw [h1, et] at CS
  have HS := Lib.hid CS
  have hvl : (vl l).length ≤ s.size := by unfold vl; rw [List.length_take]; omega
  have hbl : (befo (vl l)).length ≤ (vl l).length := (List.takeWhile_sublist _).length_le
  have hel : (beh (vl l)).length ≤ (vl l).length := by
    unfold beh; rw [List.length_drop]
    have := dw_le npt (vl l); omega
  have CU := fun W => mcut (str (vl l)) 46 (by rw [str_size]; omega) W
  rw [byt_str] at CU
  have CU' : ∀ W, Calls Tryd.prog 41 #[.string (str (vl l)), .string ⟨#[46]⟩] W fun e w' => e = .returned (.tuple #[.string (str (befo (vl l))), .string (str (beh (vl l))), .bool (ptd (vl l))]) ∧ Below W.heap.size W w' := CU
  have HU := Lib.hid CU'
  have MN := fun W => mnumeral (str (befo (vl l))) (by rw [str_size]; omega) W
  have MD := fun W => mdecimals (str (beh (vl l))) (by rw [str_size]; omega) W
  rw [byt_str] at MN MD
  clear CS CU CU' e1 hl et
  cases h2 : numl (befo (vl l))
  · have er : rE l = 2 := by unfold rE rOk; rw [h1, h2]; rfl
    have ev : rV l = 0 := by unfold rV; rw [er]; rfl
    rw [h2] at MN
    have HN := Lib.hid MN
    rw [er, ev]
    generalize str (vl l) = V at *
    generalize str (befo (vl l)) = A at *
    generalize str (beh (vl l)) = B at *
    generalize ptd (vl l) = P at *
    clear MN MD h1 h2 er ev hvl hbl hel hlen
    go_enter Tryd.func53, Tryd.ntmps53
    go_wp2_with fail
    refine (HS.out _).mono ?_
    rintro e w1 ⟨rfl, rfl⟩
    go_wp2_with fail
    refine (HU.out _).mono ?_
    rintro e w2 ⟨rfl, q2⟩
    have Q2 := Lib.hid q2
    clear q2
    go_wp2_with fail
    refine (HN.out _).mono ?_
    rintro e w3 ⟨rfl, q3⟩
    have Q3 := Lib.hid (btr Q2.out q3)
    clear q3
    go_wp2_with fail
    go_ret2
    exact ⟨rfl, Q3.out⟩
  rw [h2] at MN
  have HN := Lib.hid MN
  clear MN
  -- what stands behind the point
  have main : ∀ (P D : Bool), ptd (vl l) = P → (P = true → deci (beh (vl l)) = D) → (P = false → D = true) →
      Calls Tryd.prog 53 #[.string s] w fun e w' => e = .returned (.tuple #[.int .i64 ((rV l : Nat) : Int), .int .i64 (rE l)]) ∧ Below w.heap.size w w' := by
    intro P D hP hD hPD
    cases D
    · have hPt : P = true := by cases P; exact absurd (hPD rfl) (by decide); rfl
      subst hPt
      have hd := hD rfl
      have er : rE l = 2 := by unfold rE rOk; rw [h1, h2, hP, hd]; rfl
      have ev : rV l = 0 := by unfold rV; rw [er]; rfl
      rw [hP] at HU
      rw [hd] at MD
      have HD := Lib.hid MD
      rw [er, ev]
      generalize str (vl l) = V at *
      generalize str (befo (vl l)) = A at *
      generalize str (beh (vl l)) = B at *
      clear MD h1 h2 er ev hvl hbl hel hlen hd hD hP hPD
      go_enter Tryd.func53, Tryd.ntmps53
      go_wp2_with fail
      refine (HS.out _).mono ?_
      rintro e w1 ⟨rfl, rfl⟩
      go_wp2_with fail
      refine (HU.out _).mono ?_
      rintro e w2 ⟨rfl, q2⟩
      have Q2 := Lib.hid q2
      clear q2
      go_wp2_with fail
      refine (HN.out _).mono ?_
      rintro e w3 ⟨rfl, q3⟩
      have Q3 := Lib.hid (btr Q2.out q3)
      clear q3
      go_wp2_with fail
      refine (HD.out _).mono ?_
      rintro e w4 ⟨rfl, q4⟩
      have Q4 := Lib.hid (btr Q3.out q4)
      clear q4
      go_wp2_with fail
      go_ret2
      exact ⟨rfl, Q4.out⟩
    · have hok : rOk l = true := by
        unfold rOk
        rw [h1, h2, hP]
        cases P
        · rfl
        · rw [hD rfl]; rfl
      obtain ⟨d, f, hsh, el⟩ := ok_sh hok
      obtain ⟨p1, p2, p3, p4, p5, p6⟩ := sh_parts hsh
      have hv := vl_snoc (d ++ tl f) 37
      rw [← el] at hv
      obtain ⟨b1, b2, b3⟩ := befo_tl f p1
      rw [← hv] at b1 b2 b3
      have hk4 : (beh (vl l)).length ≤ 4 := by rw [b2]; exact p4
      have htx : rTx l = befo (vl l) ++ beh (vl l) ++ zs (4 - (beh (vl l)).length) := rfl
      have hdig : allDig (rTx l) = true := by rw [htx, b1, b2, allDig_app, allDig_app, p1, p5, zs_dig]; rfl
      have hne : rTx l ≠ [] := by
        rw [htx, b1]
        intro e
        rw [List.append_eq_nil_iff, List.append_eq_nil_iff] at e
        exact p3 e.1.1
      have htl : (rTx l).length ≤ 281474976710656 := by
        rw [htx, List.length_append, List.length_append]
        unfold zs
        rw [List.length_replicate]; omega
      have AT := fun W hW => ratoi (rTx l) hne hdig htl W hW
      obtain ⟨U, hUU⟩ : ∃ U, str (befo (vl l)) ++ str (beh (vl l)) = U := ⟨_, rfl⟩
      have hcat : U ++ str (zs (4 - (beh (vl l)).length)) = str (rTx l) := by rw [← hUU, htx, str_app, str_app]
      have z1 : (str (befo (vl l))).size ≤ 281474976710600 := by rw [str_size]; omega
      have z2 : (str (beh (vl l))).size ≤ 4 := by rw [str_size]; omega
      have z3 : U.size ≤ 281474976710604 := by rw [← hUU, ByteArray.size_append]; omega
      have z4 : (str (zs (4 - (beh (vl l)).length))).size ≤ 4 := by rw [str_size]; unfold zs; rw [List.length_replicate]; omega
      have RP := fun W => mrepeat ⟨#[48]⟩ 48 (4 - (beh (vl l)).length) rfl (by omega) W
      have hzz : List.replicate (4 - (beh (vl l)).length) 48 = zs (4 - (beh (vl l)).length) := rfl
      rw [hzz] at RP
      have hsz : (str (beh (vl l))).size = (beh (vl l)).length := str_size _
      have er : rE l = if rN l ≤ 1000000 then 0 else 1 := by unfold rE; rw [hok, if_pos rfl]
      have ev : rV l = if rN l ≤ 1000000 then rN l else 0 := by
        unfold rV; rw [er]
        by_cases q : rN l ≤ 1000000
        · rw [if_pos q, if_pos q, if_pos rfl]
        · rw [if_neg q, if_neg q, if_neg (by decide)]
      have hN : dval (rTx l) = rN l := rfl
      rw [hN] at AT
      rw [er, ev]
      rw [hP] at HU
      obtain ⟨k, hk⟩ : ∃ k, 4 - (beh (vl l)).length = k := ⟨_, rfl⟩
      rw [hk] at RP hcat z4
      have hsub : wrap64 (4 - ((str (beh (vl l))).size : Int)) = (k : Int) := by rw [hsz]; unfold wrap64; omega
      have hsub2 : (4 - ((str (beh (vl l))).size : Int)) = (k : Int) := by rw [hsz]; omega
      have hMD : P = true → ∀ W, Calls Tryd.prog 64 #[.string (str (beh (vl l)))] W fun e w' => e = .returned (.bool true) ∧ Below W.heap.size W w' := by
        intro hPt W
        have := MD W
        rw [hD hPt] at this
        exact this
      generalize str (vl l) = V at *
      generalize str (befo (vl l)) = A at *
      generalize str (beh (vl l)) = B at *
      generalize str (zs k) = Z at *
      generalize str (rTx l) = T at *
      generalize rN l = M at *
      obtain ⟨RV, hRV⟩ : ∃ RV : Nat, (if M ≤ 1000000 then M else 0) = RV := ⟨_, rfl⟩
      obtain ⟨RE, hRE⟩ : ∃ RE : Int, (if M ≤ 1000000 then 0 else 1 : Int) = RE := ⟨_, rfl⟩
      rw [hRV, hRE]
      have HRV := Lib.hid hRV
      have HRE := Lib.hid hRE
      clear hRV hRE
      have hU := Lib.hid hcat
      have HRP := Lib.hid RP
      have HAT := Lib.hid AT
      have HMD := Lib.hid hMD
      have hcat2 := hU.out
      clear MD h1 h2 er ev hvl hbl hel hlen hD hP hPD hok hsh el p1 p2 p3 p4 p5 p6 hv b1 b2 b3 hk4 htx hdig hne htl AT RP hzz hsz hN hk hMD hcat
      cases P
      · go_enter Tryd.func53, Tryd.ntmps53
        go_wp2_with fail
        refine (HS.out _).mono ?_
        rintro e w1 ⟨rfl, rfl⟩
        go_wp2_with fail
        refine (HU.out _).mono ?_
        rintro e w2 ⟨rfl, q2⟩
        have Q2 := Lib.hid q2
        clear q2
        go_wp2_with fail
        refine (HN.out _).mono ?_
        rintro e w3 ⟨rfl, q3⟩
        have Q3 := Lib.hid (btr Q2.out q3)
        clear q3
        go_wp2_with fail
        with_reducible refine (HRP.out _).mono ?_
        rintro e w4 ⟨rfl, q4⟩
        have Q4 := Lib.hid (btr Q3.out q4)
        clear q4
        go_wp2_with fail
        with_reducible refine (HAT.out _ (HE.out.keep Q4.out)).mono ?_
        rintro e w5 ⟨⟨v, er, rfl, hv⟩, q5⟩
        have Q5 := Lib.hid (btr Q4.out q5)
        clear q5
        rcases hv with ⟨hm, rfl, rfl⟩ | ⟨hm, t, p, rfl⟩
        · by_cases hq : M ≤ 1000000
          · have hqz : ¬ (1000000 : Int) < (M : Int) := by omega
            have HQ := Lib.hid hq
            clear hm hq
            go_wp2_with fail
            go_ret2
            exact ⟨by rw [← HRV.out, ← HRE.out, if_pos HQ.out, if_pos HQ.out]; rfl, Q5.out⟩
          · have hqz : (1000000 : Int) < (M : Int) := by omega
            have HQ := Lib.hid hq
            clear hm hq
            go_wp2_with fail
            go_ret2
            exact ⟨by rw [← HRV.out, ← HRE.out, if_neg HQ.out, if_neg HQ.out]; rfl, Q5.out⟩
        · have hq : ¬ M ≤ 1000000 := by omega
          have HQ := Lib.hid hq
          clear hm hq
          go_wp2_with fail
          go_ret2
          exact ⟨by rw [← HRV.out, ← HRE.out, if_neg HQ.out, if_neg HQ.out]; rfl, Q5.out⟩
      · go_enter Tryd.func53, Tryd.ntmps53
        go_wp2_with fail
        refine (HS.out _).mono ?_
        rintro e w1 ⟨rfl, rfl⟩
        go_wp2_with fail
        refine (HU.out _).mono ?_
        rintro e w2 ⟨rfl, q2⟩
        have Q2 := Lib.hid q2
        clear q2
        go_wp2_with fail
        refine (HN.out _).mono ?_
        rintro e w3 ⟨rfl, q3⟩
        have Q3 := Lib.hid (btr Q2.out q3)
        clear q3
        go_wp2_with fail
        refine (HMD.out (by simp) _).mono ?_
        rintro e w4 ⟨rfl, q4⟩
        have Q4 := Lib.hid (btr Q3.out q4)
        clear q4
        go_wp2_with fail
        with_reducible refine (HRP.out _).mono ?_
        rintro e w5 ⟨rfl, q5⟩
        have Q5 := Lib.hid (btr Q4.out q5)
        clear q5
        go_wp2_with fail
        with_reducible refine (HAT.out _ (HE.out.keep Q5.out)).mono ?_
        rintro e w6 ⟨⟨v, er, rfl, hv⟩, q6⟩
        have Q6 := Lib.hid (btr Q5.out q6)
        clear q6
        rcases hv with ⟨hm, rfl, rfl⟩ | ⟨hm, t, p, rfl⟩
        · by_cases hq : M ≤ 1000000
          · have hqz : ¬ (1000000 : Int) < (M : Int) := by omega
            have HQ := Lib.hid hq
            clear hm hq
            go_wp2_with fail
            go_ret2
            exact ⟨by rw [← HRV.out, ← HRE.out, if_pos HQ.out, if_pos HQ.out]; rfl, Q6.out⟩
          · have hqz : (1000000 : Int) < (M : Int) := by omega
            have HQ := Lib.hid hq
            clear hm hq
            go_wp2_with fail
            go_ret2
            exact ⟨by rw [← HRV.out, ← HRE.out, if_neg HQ.out, if_neg HQ.out]; rfl, Q6.out⟩
        · have hq : ¬ M ≤ 1000000 := by omega
          have HQ := Lib.hid hq
          clear hm hq
          go_wp2_with fail
          go_ret2
          exact ⟨by rw [← HRV.out, ← HRE.out, if_neg HQ.out, if_neg HQ.out]; rfl, Q6.out⟩
  cases hP : ptd (vl l)
  · exact main false true hP (fun h => absurd h (by decide)) (fun _ => rfl)
  · exact main true (deci (beh (vl l))) hP (fun _ => rfl) (fun h => absurd h (by decide))
end Go.Proofs.YtcnnkobiijhegaaDoor
