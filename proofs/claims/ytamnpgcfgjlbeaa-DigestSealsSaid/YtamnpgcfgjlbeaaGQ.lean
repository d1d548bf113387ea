/-
  The walk of the law of sealed texts.
-/
import Derived.Test.YtamnpgcfgjlbeaaGP
import Derived.Deep.RegionHeld3
import Derived.StillTactics
namespace Go.Proofs.Ytamnpgcfgjlbeaa
open Go Go.RowKit Go.Lib GM

theorem cut_front (l m : List UInt8) : (str (l ++ m)).extract 0 l.length = str l := by
  rw [str_cut, byt_str, List.drop_zero, List.take_left]
theorem cut_other (l : List UInt8) (k : Nat) (c : UInt8) : (str l).extract 0 k ++ str [c] ++ (str l).extract (k + 1) (str l).size = str (l.take k ++ c :: l.drop (k + 1)) := by
  rw [str_cut, str_cut, byt_str, str_app, str_app, str_size, List.take_length, List.drop_zero, List.append_assoc]; rfl
theorem pln_one (c : UInt8) : pln (byt (str [c])) = okB c := by rw [byt_str]; simp [pln]
theorem seal_get (l : List UInt8) (k : Nat) (h : k < (str l).size) : (str l)[k] = l.getD k 0 := by
  rw [get_getD, byt_str]
theorem byte_eq (c d : UInt8) : ((c.toNat : Int) == (d.toNat : Int)) = decide (c = d) := by
  rw [Bool.eq_iff_iff, beq_iff_eq, decide_eq_true_eq, ← UInt8.toNat_inj]
  omega
theorem byte_lies (w : World) (c : UInt8) : BytesAt w.heap.size 0 [c] (w.alloc (.cells #[.int .u8 (c.toNat : Int)] 5)).drew := by
  intro j hj
  have hj2 : j < 1 := hj
  match j, hj2 with
  | 0, _ => simp [go_sem]

set_option maxRecDepth 100000 in
set_option maxHeartbeats 8000000 in
theorem digestSeals (s : ByteArray) (a : Nat) (ha : a < 256) (c : UInt8) (w : World) :
    Calls Try.prog 7 #[.string s, .int .u8 (a : Int), .int .u8 (c.toNat : Int)] w fun e w' => e = .returned (.bool true) ∧ Below w.heap.size w w' := by
  have LV := Lib.hid (fun W => live_any W)
  have HB0 := Lib.hid (bref w)
  have hlen := byt_len s
  by_cases hl : 200 < s.size
  · have hlz : (200 : Int) < (s.size : Int) := by omega
    have hld : decide ((200 : Int) < (s.size : Int)) = true := by simp; omega
    clear hl hlen ha
    go_enter Try.func7, Try.ntmps7
    go_wp2_with fail
    with_reducible refine (LV.out _).mono ?_
    rintro e w1 ⟨rfl, q1⟩
    have HB1 := Lib.hid (btr HB0.out q1)
    clear q1
    go_wp2_with fail
    go_ret
    exact ⟨rfl, HB1.out⟩
  have hld : decide ((200 : Int) < (s.size : Int)) = false := by simp; omega
  have M1 := fun W => mseal s W
  by_cases hb : s.size < 1 ∨ 46 < s.size
  · obtain ⟨z1, z2⟩ := seal_big (byt s) (by omega)
    rw [z1, z2, show str [] = ⟨#[]⟩ from rfl] at M1
    have M2 := Lib.hid M1
    rcases hb with hb | hb
    · have d1 : decide ((s.size : Int) < 1) = true := by simp; omega
      clear hl hlen ha z1 z2 M1 hb
      go_enter Try.func7, Try.ntmps7
      go_wp2_with fail
      with_reducible refine (M2.out _).mono ?_
      rintro e w1 ⟨rfl, q1⟩
      have HB1 := Lib.hid (btr HB0.out q1)
      clear q1
      go_wp2_with fail
      with_reducible refine (LV.out _).mono ?_
      rintro e w2 ⟨rfl, q2⟩
      have HB2 := Lib.hid (btr HB1.out q2)
      clear q2
      go_wp2_with fail
      go_ret
      exact ⟨rfl, HB2.out⟩
    · have d1 : decide ((s.size : Int) < 1) = false := by simp; omega
      have d2 : decide ((46 : Int) < (s.size : Int)) = true := by simp; omega
      clear hl hlen ha z1 z2 M1 hb
      go_enter Try.func7, Try.ntmps7
      go_wp2_with fail
      with_reducible refine (M2.out _).mono ?_
      rintro e w1 ⟨rfl, q1⟩
      have HB1 := Lib.hid (btr HB0.out q1)
      clear q1
      go_wp2_with fail
      with_reducible refine (LV.out _).mono ?_
      rintro e w2 ⟨rfl, q2⟩
      have HB2 := Lib.hid (btr HB1.out q2)
      clear q2
      go_wp2_with fail
      go_ret
      exact ⟨rfl, HB2.out⟩
  obtain ⟨HBad, HGood⟩ := seal_mid (byt s) (by omega)
  have d1 : decide ((s.size : Int) < 1) = false := by simp; omega
  have d2 : decide ((46 : Int) < (s.size : Int)) = false := by simp; omega
  have P1 := fun W => rplain s (by omega) W
  cases hp : pln (byt s)
  · obtain ⟨z1, z2⟩ := HBad hp
    rw [z1, z2, show str [] = ⟨#[]⟩ from rfl] at M1
    rw [hp] at P1
    have M2 := Lib.hid M1
    have P2 := Lib.hid P1
    clear hl hlen ha z1 z2 M1 P1 hb hp HBad HGood
    go_enter Try.func7, Try.ntmps7
    go_wp2_with fail
    with_reducible refine (M2.out _).mono ?_
    rintro e w1 ⟨rfl, q1⟩
    have HB1 := Lib.hid (btr HB0.out q1)
    clear q1
    go_wp2_with fail
    with_reducible refine (P2.out _).mono ?_
    rintro e wz ⟨rfl, rfl⟩
    go_wp2_with fail
    with_reducible refine (LV.out _).mono ?_
    rintro e w2 ⟨rfl, q2⟩
    have HB2 := Lib.hid (btr HB1.out q2)
    clear q2
    go_wp2_with fail
    go_ret
    exact ⟨rfl, HB2.out⟩
  obtain ⟨z1, z2⟩ := HGood hp
  have hsl := sealL_length (byt s)
  have hsw : sealL (byt s) = byt s ++ [UInt8.ofNat (48 + chk (byt s) / 10), UInt8.ofNat (48 + chk (byt s) % 10)] := rfl
  have hx : (str (sealL (byt s))).extract 0 s.size = s := by
    have := cut_front (byt s) [UInt8.ofNat (48 + chk (byt s) / 10), UInt8.ofNat (48 + chk (byt s) % 10)]
    rw [← hsw, hlen, str_byt] at this
    exact this
  have hss := sealed_seal (byt s) z1
  have hso := sealed_other (byt s) z1
  rw [z1, z2] at M1
  obtain ⟨L, hL⟩ : ∃ L, sealL (byt s) = L := ⟨_, rfl⟩
  rw [hL] at M1 hsl hx hss hso
  have S1 := fun W => msealed (str L) W
  rw [byt_str, hss] at S1
  have hTs : (str L).size = s.size + 2 := by rw [str_size]; omega
  have hk1 : a % (s.size + 2) < s.size + 2 := Nat.mod_lt _ (by omega)
  have hkt : (a : Int).tmod ((str L).size : Int) = ((a % (s.size + 2) : Nat) : Int) := by rw [Int.tmod_eq_emod_of_nonneg (by omega), hTs]; omega
  obtain ⟨k, hk⟩ : ∃ k, a % (s.size + 2) = k := ⟨_, rfl⟩
  rw [hk] at hk1 hkt
  have hco := cut_other L k c
  have hgk := seal_get L k (by omega)
  have hso1 := hso k (by omega) c
  obtain ⟨D, hD⟩ : ∃ D, L.getD k 0 = D := ⟨_, rfl⟩
  rw [hD] at hgk hso1
  have S3 := fun W => msealed (str (L.take k ++ c :: L.drop (k + 1))) W
  rw [byt_str] at S3
  rw [← hco] at S3
  obtain ⟨V, hV⟩ : ∃ V, sealedB (L.take k ++ c :: L.drop (k + 1)) = V := ⟨_, rfl⟩
  rw [hV] at S3 hso1
  obtain ⟨X, hX⟩ : ∃ X, str L = X := ⟨_, rfl⟩
  rw [hX] at S1 S3 M1 hx hTs hkt
  have hgk2 : ∀ h : k < X.size, X[k]'h = D := by subst hX; exact fun h => hgk
  have q1 : ((X.size : Int) != (s.size : Int) + 2) = false := by rw [bne_eq_false_iff_eq]; omega
  have q2 : ¬ (X.size : Int) = 0 := by omega
  have q3 : ((X.size : Int) == 0) = false := by rw [beq_eq_false_iff_ne]; exact q2
  have q4 : (k : Int) ≤ (X.size : Int) := by omega
  have q5 : (k : Int) < (X.size : Int) := by omega
  have q6 : (k : Int) + 1 ≤ (X.size : Int) := by omega
  have q7 : ((k : Int) + 1).toNat = k + 1 := by omega
  have q8 : k < X.size := by omega
  have q9 : (s.size : Int) ≤ (X.size : Int) := by omega
  have hs46 : s.size ≤ 46 := by omega
  have hXs : X.size ≤ 48 := by omega
  obtain ⟨A1, hA1⟩ : ∃ A, X.extract 0 k = A := ⟨_, rfl⟩
  obtain ⟨A2, hA2⟩ : ∃ A, X.extract (k + 1) X.size = A := ⟨_, rfl⟩
  have sA1 : A1.size ≤ 48 := by rw [← hA1, ByteArray.size_extract]; omega
  have sA2 : A2.size ≤ 48 := by rw [← hA2, ByteArray.size_extract]; omega
  rw [hA1, hA2] at S3
  have P3 := fun W => rplain (str [c]) (by rw [str_size]; exact (show 1 ≤ 9223372036854775806 by decide)) W
  rw [pln_one] at P3
  have hcv : ∀ W : World, (convert 38 9 (.slice (some ⟨W.heap.size, 0, none⟩) 1 1)).run Try.prog (W.alloc (.cells #[.int .u8 (c.toNat : Int)] 5)).drew = .ok (.string (str [c])) (W.alloc (.cells #[.int .u8 (c.toNat : Int)] 5)).drew := fun W => conv_bytes W.heap.size 0 1 [c] 1 rfl _ (byte_lies W c)
  have sC : (str [c]).size = 1 := by rw [str_size]; rfl
  obtain ⟨C, hC⟩ : ∃ C, str [c] = C := ⟨_, rfl⟩
  rw [hC] at S3 P3 sC
  have hcv2 : ∀ W : World, (convert 38 9 (.slice (some ⟨W.heap.size, 0, none⟩) 1 1)).run Try.prog (W.alloc (.cells #[.int .u8 (c.toNat : Int)] 5)).drew = .ok (.string C) (W.alloc (.cells #[.int .u8 (c.toNat : Int)] 5)).drew := by rw [← hC]; exact hcv
  have L1 := fun W => rletter c W
  have L2 := fun W => rletter D W
  have q10 := byte_eq c D
  have sO : (A1 ++ C ++ A2).size ≤ 97 := by rw [app_le, app_le]; omega
  have M2 := Lib.hid M1
  have S2 := Lib.hid S1
  have S4 := Lib.hid S3
  have CV := Lib.hid hcv2
  have KT := Lib.hid hkt
  have G := Lib.hid (hgk2 q8)
  have wa : wrap64 (a : Int) = (a : Int) := by unfold wrap64; omega
  clear hcv hcv2 hC hX hco hgk hgk2 hL hsl hsw hss hso z1 z2 HBad HGood hp hl hlen ha P1 hb M1 S1 S3 hk1 hD hTs hkt
  clear hTs
  cases hok : okB c
  · rw [hok] at P3
    have P4 := Lib.hid P3
    clear hok P3 hso1 L1 L2 q10 S4 hk hV
    go_enter Try.func7, Try.ntmps7
    go_wp2_with fail
    with_reducible refine (M2.out _).mono ?_
    rintro e w1 ⟨rfl, q1⟩
    have HB1 := Lib.hid (btr HB0.out q1)
    clear q1
    go_wp2_with fail
    with_reducible refine (S2.out _).mono ?_
    rintro e wz ⟨rfl, rfl⟩
    have kt := KT.out
    go_wp2_with fail
    clear kt
    have cv := CV.out w1
    go_region
    clear cv
    have HB2 := Lib.hid (bdr (bal HB1.out (.cells #[.int .u8 (c.toNat : Int)] 5)))
    generalize (w1.alloc (.cells #[.int .u8 (c.toNat : Int)] 5)).drew = w2 at HB2 ⊢
    clear HB1
    go_wp2_with fail
    refine wp_region_held_drew (S := (fun W => Below w.heap.size w W)) (by kernel_rfl) (bdr HB2.out) (fun hH0 => ?_)
    refine wpAnyH_take (i := 0) (oi := _) (v := ?_) rfl (by kernel_rfl) (by kernel_rfl) (by kernel_rfl) (fun _ _ _ h => h) (Or.inl ⟨?_, ?_⟩) hH0 ?_
    rotate_left
    · kernel_rfl
    · (intro W' hSw; skip; go_simp; (try with_reducible rfl))
    (try simp only [List.getElem_toArray])
    (try simp only [List.getElem_cons_succ])
    (try simp only [List.getElem_cons_zero])
    (try simp only [Act.put])
    (try simp only [List.setIfInBounds_toArray])
    (try simp only [List.set_cons_succ])
    (try simp only [List.set_cons_zero])
    have cv := CV.out w2
    refine wpAnyH_ready (rs := [1]) (by kernel_rfl) (by simp) ?_
    refine AllReadyH.cons (o := _) rfl (fun K hK => ?_) AllReadyH.nil
    go_simp
    refine hK.out _ _ (by first | exact bdr (bal HB2.out _) | exact bal (bdr HB2.out) _) (fun hH1 => ?_)
    clear hK K
    (try simp only [List.getElem_toArray])
    (try simp only [List.getElem_cons_succ])
    (try simp only [List.getElem_cons_zero])
    (try simp only [Act.put])
    (try simp only [List.setIfInBounds_toArray])
    (try simp only [List.set_cons_succ])
    (try simp only [List.set_cons_zero])
    refine wpAnyH_ready (rs := [2]) (by kernel_rfl) (by simp) ?_
    refine AllReadyH.cons (o := _) rfl (fun K hK => ?_) AllReadyH.nil
    go_simp
    refine hK.out _ _ (hH1) (fun hH2 => ?_)
    clear hK K
    (try simp only [List.getElem_toArray])
    (try simp only [List.getElem_cons_succ])
    (try simp only [List.getElem_cons_zero])
    (try simp only [Act.put])
    (try simp only [List.setIfInBounds_toArray])
    (try simp only [List.set_cons_succ])
    (try simp only [List.set_cons_zero])
    clear cv hH0 hH1
    generalize (w2.alloc (.cells #[.int .u8 (c.toNat : Int)] 5)).drew = w3 at hH2 ⊢
    clear HB2
    refine wpAnyH_ready (rs := [3]) (by kernel_rfl) (by simp) ?_
    refine AllReadyH.cons (o := _) rfl (fun K hK => ?_) AllReadyH.nil
    go_simp
    refine (P4.out _).mono ?_
    rintro e wz ⟨rfl, rfl⟩
    refine hK.out _ _ hH2 (fun hH3 => ?_)
    clear hK K
    (try simp only [List.getElem_toArray])
    (try simp only [List.getElem_cons_succ])
    (try simp only [List.getElem_cons_zero])
    (try simp only [Act.put])
    (try simp only [List.setIfInBounds_toArray])
    (try simp only [List.set_cons_succ])
    (try simp only [List.set_cons_zero])
    refine wpAnyH_take (i := 4) (oi := _) (v := ?_) rfl (by kernel_rfl) (by kernel_rfl) (by kernel_rfl) (fun _ _ _ h => h) (Or.inl ⟨?_, ?_⟩) hH3 ?_
    rotate_left
    · kernel_rfl
    · (intro W' hSw; skip; go_simp; (try with_reducible rfl))
    (try simp only [List.getElem_toArray])
    (try simp only [List.getElem_cons_succ])
    (try simp only [List.getElem_cons_zero])
    (try simp only [Act.put])
    (try simp only [List.setIfInBounds_toArray])
    (try simp only [List.set_cons_succ])
    (try simp only [List.set_cons_zero])
    refine wpAnyH_take (i := 5) (oi := _) (v := ?_) rfl (by kernel_rfl) (by kernel_rfl) (by kernel_rfl) (fun _ _ _ h => h) (Or.inl ⟨?_, ?_⟩) hH3 ?_
    rotate_left
    · kernel_rfl
    · (intro W' hSw; skip; go_simp; (try with_reducible rfl))
    (try simp only [List.getElem_toArray])
    (try simp only [List.getElem_cons_succ])
    (try simp only [List.getElem_cons_zero])
    (try simp only [Act.put])
    (try simp only [List.setIfInBounds_toArray])
    (try simp only [List.set_cons_succ])
    (try simp only [List.set_cons_zero])
    refine wpAnyH_take (i := 6) (oi := _) (v := undef) rfl (by kernel_rfl) (by kernel_rfl) (by kernel_rfl) (fun _ _ _ h => h) (Or.inr ⟨?_, rfl⟩) hH3 ?_
    · kernel_rfl
    (try simp only [List.getElem_toArray])
    (try simp only [List.getElem_cons_succ])
    (try simp only [List.getElem_cons_zero])
    (try simp only [Act.put])
    (try simp only [List.setIfInBounds_toArray])
    (try simp only [List.set_cons_succ])
    (try simp only [List.set_cons_zero])
    refine wpAnyH_take (i := 8) (oi := _) (v := undef) rfl (by kernel_rfl) (by kernel_rfl) (by kernel_rfl) (fun _ _ _ h => h) (Or.inr ⟨?_, rfl⟩) hH3 ?_
    · kernel_rfl
    (try simp only [List.getElem_toArray])
    (try simp only [List.getElem_cons_succ])
    (try simp only [List.getElem_cons_zero])
    (try simp only [Act.put])
    (try simp only [List.setIfInBounds_toArray])
    (try simp only [List.set_cons_succ])
    (try simp only [List.set_cons_zero])
    refine wpAnyH_take (i := 9) (oi := _) (v := undef) rfl (by kernel_rfl) (by kernel_rfl) (by kernel_rfl) (fun _ _ _ h => h) (Or.inr ⟨?_, rfl⟩) hH3 ?_
    · kernel_rfl
    (try simp only [List.getElem_toArray])
    (try simp only [List.getElem_cons_succ])
    (try simp only [List.getElem_cons_zero])
    (try simp only [Act.put])
    (try simp only [List.setIfInBounds_toArray])
    (try simp only [List.set_cons_succ])
    (try simp only [List.set_cons_zero])
    refine wpAnyH_take (i := 10) (oi := _) (v := undef) rfl (by kernel_rfl) (by kernel_rfl) (by kernel_rfl) (fun _ _ _ h => h) (Or.inr ⟨?_, rfl⟩) hH3 ?_
    · kernel_rfl
    (try simp only [List.getElem_toArray])
    (try simp only [List.getElem_cons_succ])
    (try simp only [List.getElem_cons_zero])
    (try simp only [Act.put])
    (try simp only [List.setIfInBounds_toArray])
    (try simp only [List.set_cons_succ])
    (try simp only [List.set_cons_zero])
    refine wpAnyH_take (i := 7) (oi := _) (v := undef) rfl (by kernel_rfl) (by kernel_rfl) (by kernel_rfl) (fun _ _ _ h => h) (Or.inr ⟨?_, rfl⟩) hH3 ?_
    · kernel_rfl
    (try simp only [List.getElem_toArray])
    (try simp only [List.getElem_cons_succ])
    (try simp only [List.getElem_cons_zero])
    (try simp only [Act.put])
    (try simp only [List.setIfInBounds_toArray])
    (try simp only [List.set_cons_succ])
    (try simp only [List.set_cons_zero])
    refine wpAnyH_take (i := 11) (oi := _) (v := undef) rfl (by kernel_rfl) (by kernel_rfl) (by kernel_rfl) (fun _ _ _ h => h) (Or.inr ⟨?_, rfl⟩) hH3 ?_
    · kernel_rfl
    (try simp only [List.getElem_toArray])
    (try simp only [List.getElem_cons_succ])
    (try simp only [List.getElem_cons_zero])
    (try simp only [Act.put])
    (try simp only [List.setIfInBounds_toArray])
    (try simp only [List.set_cons_succ])
    (try simp only [List.set_cons_zero])
    refine wpAnyH_take (i := 12) (oi := _) (v := undef) rfl (by kernel_rfl) (by kernel_rfl) (by kernel_rfl) (fun _ _ _ h => h) (Or.inr ⟨?_, rfl⟩) hH3 ?_
    · kernel_rfl
    (try simp only [List.getElem_toArray])
    (try simp only [List.getElem_cons_succ])
    (try simp only [List.getElem_cons_zero])
    (try simp only [Act.put])
    (try simp only [List.setIfInBounds_toArray])
    (try simp only [List.set_cons_succ])
    (try simp only [List.set_cons_zero])
    refine wpAnyH_take (i := 13) (oi := _) (v := ?_) rfl (by kernel_rfl) (by kernel_rfl) (by kernel_rfl) (fun _ _ _ h => h) (Or.inl ⟨?_, ?_⟩) hH3 ?_
    rotate_left
    · kernel_rfl
    · (intro W' hSw; skip; go_simp; (try with_reducible rfl))
    (try simp only [List.getElem_toArray])
    (try simp only [List.getElem_cons_succ])
    (try simp only [List.getElem_cons_zero])
    (try simp only [Act.put])
    (try simp only [List.setIfInBounds_toArray])
    (try simp only [List.set_cons_succ])
    (try simp only [List.set_cons_zero])
    refine wpAnyH_done (by kernel_rfl) ?_ _
    have HB9 := Lib.hid hH3
    clear hH2 hH3
    go_wp2_with fail
    with_reducible refine (LV.out _).mono ?_
    rintro e w10 ⟨rfl, q10⟩
    have HB10 := Lib.hid (btr HB9.out q10)
    clear q10
    go_wp2_with fail
    go_ret
    exact ⟨rfl, HB10.out⟩
  rw [hok] at P3
  have P4 := Lib.hid P3
  by_cases he : ltB c = ltB D
  · rw [← hso1 hok he] at q10
    rw [← he] at L2
    obtain ⟨B, hB⟩ : ∃ B, ltB c = B := ⟨_, rfl⟩
    rw [hB] at L1 L2
    have L3 := Lib.hid L1
    have L4 := Lib.hid L2
    clear hok P3 hso1 L1 L2 hk hV he hB
    go_enter Try.func7, Try.ntmps7
    go_wp2_with fail
    with_reducible refine (M2.out _).mono ?_
    rintro e w1 ⟨rfl, q1⟩
    have HB1 := Lib.hid (btr HB0.out q1)
    clear q1
    go_wp2_with fail
    with_reducible refine (S2.out _).mono ?_
    rintro e wz ⟨rfl, rfl⟩
    have kt := KT.out
    go_wp2_with fail
    clear kt
    have cv := CV.out w1
    go_region
    clear cv
    have HB2 := Lib.hid (bdr (bal HB1.out (.cells #[.int .u8 (c.toNat : Int)] 5)))
    generalize (w1.alloc (.cells #[.int .u8 (c.toNat : Int)] 5)).drew = w2 at HB2 ⊢
    clear HB1
    go_wp2_with fail
    refine wp_region_held_drew (S := (fun W => Below w.heap.size w W)) (by kernel_rfl) (bdr HB2.out) (fun hH0 => ?_)
    refine wpAnyH_take (i := 0) (oi := _) (v := ?_) rfl (by kernel_rfl) (by kernel_rfl) (by kernel_rfl) (fun _ _ _ h => h) (Or.inl ⟨?_, ?_⟩) hH0 ?_
    rotate_left
    · kernel_rfl
    · (intro W' hSw; skip; go_simp; (try with_reducible rfl))
    (try simp only [List.getElem_toArray])
    (try simp only [List.getElem_cons_succ])
    (try simp only [List.getElem_cons_zero])
    (try simp only [Act.put])
    (try simp only [List.setIfInBounds_toArray])
    (try simp only [List.set_cons_succ])
    (try simp only [List.set_cons_zero])
    have cv := CV.out w2
    refine wpAnyH_ready (rs := [1]) (by kernel_rfl) (by simp) ?_
    refine AllReadyH.cons (o := _) rfl (fun K hK => ?_) AllReadyH.nil
    go_simp
    refine hK.out _ _ (by first | exact bdr (bal HB2.out _) | exact bal (bdr HB2.out) _) (fun hH1 => ?_)
    clear hK K
    (try simp only [List.getElem_toArray])
    (try simp only [List.getElem_cons_succ])
    (try simp only [List.getElem_cons_zero])
    (try simp only [Act.put])
    (try simp only [List.setIfInBounds_toArray])
    (try simp only [List.set_cons_succ])
    (try simp only [List.set_cons_zero])
    refine wpAnyH_ready (rs := [2]) (by kernel_rfl) (by simp) ?_
    refine AllReadyH.cons (o := _) rfl (fun K hK => ?_) AllReadyH.nil
    go_simp
    refine hK.out _ _ (hH1) (fun hH2 => ?_)
    clear hK K
    (try simp only [List.getElem_toArray])
    (try simp only [List.getElem_cons_succ])
    (try simp only [List.getElem_cons_zero])
    (try simp only [Act.put])
    (try simp only [List.setIfInBounds_toArray])
    (try simp only [List.set_cons_succ])
    (try simp only [List.set_cons_zero])
    clear cv hH0 hH1
    generalize (w2.alloc (.cells #[.int .u8 (c.toNat : Int)] 5)).drew = w3 at hH2 ⊢
    clear HB2
    have g := G.out
    refine wpAnyH_ready (rs := [3]) (by kernel_rfl) (by simp) ?_
    refine AllReadyH.cons (o := _) rfl (fun K hK => ?_) AllReadyH.nil
    go_simp
    refine (P4.out _).mono ?_
    rintro e wz ⟨rfl, rfl⟩
    refine hK.out _ _ hH2 (fun hH3 => ?_)
    clear hK K
    (try simp only [List.getElem_toArray])
    (try simp only [List.getElem_cons_succ])
    (try simp only [List.getElem_cons_zero])
    (try simp only [Act.put])
    (try simp only [List.setIfInBounds_toArray])
    (try simp only [List.set_cons_succ])
    (try simp only [List.set_cons_zero])
    refine wpAnyH_take (i := 4) (oi := _) (v := ?_) rfl (by kernel_rfl) (by kernel_rfl) (by kernel_rfl) (fun _ _ _ h => h) (Or.inl ⟨?_, ?_⟩) hH3 ?_
    rotate_left
    · kernel_rfl
    · (intro W' hSw; skip; go_simp; (try with_reducible rfl))
    (try simp only [List.getElem_toArray])
    (try simp only [List.getElem_cons_succ])
    (try simp only [List.getElem_cons_zero])
    (try simp only [Act.put])
    (try simp only [List.setIfInBounds_toArray])
    (try simp only [List.set_cons_succ])
    (try simp only [List.set_cons_zero])
    refine wpAnyH_take (i := 5) (oi := _) (v := ?_) rfl (by kernel_rfl) (by kernel_rfl) (by kernel_rfl) (fun _ _ _ h => h) (Or.inl ⟨?_, ?_⟩) hH3 ?_
    rotate_left
    · kernel_rfl
    · (intro W' hSw; skip; go_simp; (try with_reducible rfl))
    (try simp only [List.getElem_toArray])
    (try simp only [List.getElem_cons_succ])
    (try simp only [List.getElem_cons_zero])
    (try simp only [Act.put])
    (try simp only [List.setIfInBounds_toArray])
    (try simp only [List.set_cons_succ])
    (try simp only [List.set_cons_zero])
    refine wpAnyH_take (i := 6) (oi := _) (v := ?_) rfl (by kernel_rfl) (by kernel_rfl) (by kernel_rfl) (fun _ _ _ h => h) (Or.inl ⟨?_, ?_⟩) hH3 ?_
    rotate_left
    · kernel_rfl
    · (intro W' hSw; skip; go_simp; (try with_reducible rfl))
    (try simp only [List.getElem_toArray])
    (try simp only [List.getElem_cons_succ])
    (try simp only [List.getElem_cons_zero])
    (try simp only [Act.put])
    (try simp only [List.setIfInBounds_toArray])
    (try simp only [List.set_cons_succ])
    (try simp only [List.set_cons_zero])
    refine wpAnyH_take (i := 8) (oi := _) (v := ?_) rfl (by kernel_rfl) (by kernel_rfl) (by kernel_rfl) (fun _ _ _ h => h) (Or.inl ⟨?_, ?_⟩) hH3 ?_
    rotate_left
    · kernel_rfl
    · (intro W' hSw; skip; go_simp; (try with_reducible rfl))
    (try simp only [List.getElem_toArray])
    (try simp only [List.getElem_cons_succ])
    (try simp only [List.getElem_cons_zero])
    (try simp only [Act.put])
    (try simp only [List.setIfInBounds_toArray])
    (try simp only [List.set_cons_succ])
    (try simp only [List.set_cons_zero])
    refine wpAnyH_take (i := 9) (oi := _) (v := ?_) rfl (by kernel_rfl) (by kernel_rfl) (by kernel_rfl) (fun _ _ _ h => h) (Or.inl ⟨?_, ?_⟩) hH3 ?_
    rotate_left
    · kernel_rfl
    · (intro W' hSw; skip; go_simp; (try with_reducible rfl))
    (try simp only [List.getElem_toArray])
    (try simp only [List.getElem_cons_succ])
    (try simp only [List.getElem_cons_zero])
    (try simp only [Act.put])
    (try simp only [List.setIfInBounds_toArray])
    (try simp only [List.set_cons_succ])
    (try simp only [List.set_cons_zero])
    refine wpAnyH_take (i := 10) (oi := _) (v := ?_) rfl (by kernel_rfl) (by kernel_rfl) (by kernel_rfl) (fun _ _ _ h => h) (Or.inl ⟨?_, ?_⟩) hH3 ?_
    rotate_left
    · kernel_rfl
    · (intro W' hSw; skip; go_simp; (try with_reducible rfl))
    (try simp only [List.getElem_toArray])
    (try simp only [List.getElem_cons_succ])
    (try simp only [List.getElem_cons_zero])
    (try simp only [Act.put])
    (try simp only [List.setIfInBounds_toArray])
    (try simp only [List.set_cons_succ])
    (try simp only [List.set_cons_zero])
    refine wpAnyH_ready (rs := [7]) (by kernel_rfl) (by simp) ?_
    refine AllReadyH.cons (o := _) rfl (fun K hK => ?_) AllReadyH.nil
    go_simp
    refine (L3.out _).mono ?_
    rintro e wz ⟨rfl, rfl⟩
    refine hK.out _ _ hH3 (fun hH4 => ?_)
    clear hK K
    (try simp only [List.getElem_toArray])
    (try simp only [List.getElem_cons_succ])
    (try simp only [List.getElem_cons_zero])
    (try simp only [Act.put])
    (try simp only [List.setIfInBounds_toArray])
    (try simp only [List.set_cons_succ])
    (try simp only [List.set_cons_zero])
    refine wpAnyH_ready (rs := [11]) (by kernel_rfl) (by simp) ?_
    refine AllReadyH.cons (o := _) rfl (fun K hK => ?_) AllReadyH.nil
    go_simp
    refine (L4.out _).mono ?_
    rintro e wz ⟨rfl, rfl⟩
    refine hK.out _ _ hH4 (fun hH5 => ?_)
    clear hK K
    (try simp only [List.getElem_toArray])
    (try simp only [List.getElem_cons_succ])
    (try simp only [List.getElem_cons_zero])
    (try simp only [Act.put])
    (try simp only [List.setIfInBounds_toArray])
    (try simp only [List.set_cons_succ])
    (try simp only [List.set_cons_zero])
    refine wpAnyH_take (i := 12) (oi := _) (v := ?_) rfl (by kernel_rfl) (by kernel_rfl) (by kernel_rfl) (fun _ _ _ h => h) (Or.inl ⟨?_, ?_⟩) hH5 ?_
    rotate_left
    · kernel_rfl
    · (intro W' hSw; skip; go_simp; (try with_reducible rfl))
    (try simp only [List.getElem_toArray])
    (try simp only [List.getElem_cons_succ])
    (try simp only [List.getElem_cons_zero])
    (try simp only [Act.put])
    (try simp only [List.setIfInBounds_toArray])
    (try simp only [List.set_cons_succ])
    (try simp only [List.set_cons_zero])
    refine wpAnyH_take (i := 13) (oi := _) (v := ?_) rfl (by kernel_rfl) (by kernel_rfl) (by kernel_rfl) (fun _ _ _ h => h) (Or.inl ⟨?_, ?_⟩) hH5 ?_
    rotate_left
    · kernel_rfl
    · (intro W' hSw; skip; go_simp; (try with_reducible rfl))
    (try simp only [List.getElem_toArray])
    (try simp only [List.getElem_cons_succ])
    (try simp only [List.getElem_cons_zero])
    (try simp only [Act.put])
    (try simp only [List.setIfInBounds_toArray])
    (try simp only [List.set_cons_succ])
    (try simp only [List.set_cons_zero])
    refine wpAnyH_done (by kernel_rfl) ?_ _
    clear g
    have HB9 := Lib.hid hH5
    clear hH2 hH3 hH4 hH5
    go_wp2_with fail
    have g := G.out
    refine wp_region_held_drew (S := (fun W => Below w.heap.size w W)) (by kernel_rfl) (bdr HB9.out) (fun hH0 => ?_)
    refine wpAnyH_take (i := 0) (oi := _) (v := ?_) rfl (by kernel_rfl) (by kernel_rfl) (by kernel_rfl) (fun _ _ _ h => h) (Or.inl ⟨?_, ?_⟩) hH0 ?_
    rotate_left
    · kernel_rfl
    · (intro W' hSw; skip; go_simp; (try with_reducible rfl))
    (try simp only [List.getElem_toArray])
    (try simp only [List.getElem_cons_succ])
    (try simp only [List.getElem_cons_zero])
    (try simp only [Act.put])
    (try simp only [List.setIfInBounds_toArray])
    (try simp only [List.set_cons_succ])
    (try simp only [List.set_cons_zero])
    refine wpAnyH_take (i := 2) (oi := _) (v := ?_) rfl (by kernel_rfl) (by kernel_rfl) (by kernel_rfl) (fun _ _ _ h => h) (Or.inl ⟨?_, ?_⟩) hH0 ?_
    rotate_left
    · kernel_rfl
    · (intro W' hSw; skip; go_simp; (try with_reducible rfl))
    (try simp only [List.getElem_toArray])
    (try simp only [List.getElem_cons_succ])
    (try simp only [List.getElem_cons_zero])
    (try simp only [Act.put])
    (try simp only [List.setIfInBounds_toArray])
    (try simp only [List.set_cons_succ])
    (try simp only [List.set_cons_zero])
    refine wpAnyH_take (i := 3) (oi := _) (v := ?_) rfl (by kernel_rfl) (by kernel_rfl) (by kernel_rfl) (fun _ _ _ h => h) (Or.inl ⟨?_, ?_⟩) hH0 ?_
    rotate_left
    · kernel_rfl
    · (intro W' hSw; skip; go_simp; (try with_reducible rfl))
    (try simp only [List.getElem_toArray])
    (try simp only [List.getElem_cons_succ])
    (try simp only [List.getElem_cons_zero])
    (try simp only [Act.put])
    (try simp only [List.setIfInBounds_toArray])
    (try simp only [List.set_cons_succ])
    (try simp only [List.set_cons_zero])
    refine wpAnyH_take (i := 4) (oi := _) (v := ?_) rfl (by kernel_rfl) (by kernel_rfl) (by kernel_rfl) (fun _ _ _ h => h) (Or.inl ⟨?_, ?_⟩) hH0 ?_
    rotate_left
    · kernel_rfl
    · (intro W' hSw; skip; go_simp; (try with_reducible rfl))
    (try simp only [List.getElem_toArray])
    (try simp only [List.getElem_cons_succ])
    (try simp only [List.getElem_cons_zero])
    (try simp only [Act.put])
    (try simp only [List.setIfInBounds_toArray])
    (try simp only [List.set_cons_succ])
    (try simp only [List.set_cons_zero])
    refine wpAnyH_take (i := 5) (oi := _) (v := ?_) rfl (by kernel_rfl) (by kernel_rfl) (by kernel_rfl) (fun _ _ _ h => h) (Or.inl ⟨?_, ?_⟩) hH0 ?_
    rotate_left
    · kernel_rfl
    · (intro W' hSw; skip; go_simp; (try with_reducible rfl))
    (try simp only [List.getElem_toArray])
    (try simp only [List.getElem_cons_succ])
    (try simp only [List.getElem_cons_zero])
    (try simp only [Act.put])
    (try simp only [List.setIfInBounds_toArray])
    (try simp only [List.set_cons_succ])
    (try simp only [List.set_cons_zero])
    refine wpAnyH_take (i := 6) (oi := _) (v := ?_) rfl (by kernel_rfl) (by kernel_rfl) (by kernel_rfl) (fun _ _ _ h => h) (Or.inl ⟨?_, ?_⟩) hH0 ?_
    rotate_left
    · kernel_rfl
    · (intro W' hSw; skip; go_simp; (try with_reducible rfl))
    (try simp only [List.getElem_toArray])
    (try simp only [List.getElem_cons_succ])
    (try simp only [List.getElem_cons_zero])
    (try simp only [Act.put])
    (try simp only [List.setIfInBounds_toArray])
    (try simp only [List.set_cons_succ])
    (try simp only [List.set_cons_zero])
    refine wpAnyH_ready (rs := [1]) (by kernel_rfl) (by simp) ?_
    refine AllReadyH.cons (o := _) rfl (fun K hK => ?_) AllReadyH.nil
    go_simp
    refine (S4.out _).mono ?_
    rintro e wz ⟨rfl, rfl⟩
    refine hK.out _ _ hH0 (fun hH1 => ?_)
    clear hK K
    (try simp only [List.getElem_toArray])
    (try simp only [List.getElem_cons_succ])
    (try simp only [List.getElem_cons_zero])
    (try simp only [Act.put])
    (try simp only [List.setIfInBounds_toArray])
    (try simp only [List.set_cons_succ])
    (try simp only [List.set_cons_zero])
    refine wpAnyH_take (i := 7) (oi := _) (v := ?_) rfl (by kernel_rfl) (by kernel_rfl) (by kernel_rfl) (fun _ _ _ h => h) (Or.inl ⟨?_, ?_⟩) hH1 ?_
    rotate_left
    · kernel_rfl
    · (intro W' hSw; skip; go_simp; (try with_reducible rfl))
    (try simp only [List.getElem_toArray])
    (try simp only [List.getElem_cons_succ])
    (try simp only [List.getElem_cons_zero])
    (try simp only [Act.put])
    (try simp only [List.setIfInBounds_toArray])
    (try simp only [List.set_cons_succ])
    (try simp only [List.set_cons_zero])
    refine wpAnyH_take (i := 8) (oi := _) (v := ?_) rfl (by kernel_rfl) (by kernel_rfl) (by kernel_rfl) (fun _ _ _ h => h) (Or.inl ⟨?_, ?_⟩) hH1 ?_
    rotate_left
    · kernel_rfl
    · (intro W' hSw; skip; go_simp; (try with_reducible rfl))
    (try simp only [List.getElem_toArray])
    (try simp only [List.getElem_cons_succ])
    (try simp only [List.getElem_cons_zero])
    (try simp only [Act.put])
    (try simp only [List.setIfInBounds_toArray])
    (try simp only [List.set_cons_succ])
    (try simp only [List.set_cons_zero])
    refine wpAnyH_ready (rs := [9]) (by kernel_rfl) (by simp) ?_
    refine AllReadyH.cons (o := _) rfl (fun K hK => ?_) AllReadyH.nil
    go_simp
    refine (LV.out _).mono ?_
    rintro e w5 ⟨rfl, hk⟩
    refine hK.out _ _ (btr hH1 hk) (fun hH2 => ?_)
    clear hK K hk
    (try simp only [List.getElem_toArray])
    (try simp only [List.getElem_cons_succ])
    (try simp only [List.getElem_cons_zero])
    (try simp only [Act.put])
    (try simp only [List.setIfInBounds_toArray])
    (try simp only [List.set_cons_succ])
    (try simp only [List.set_cons_zero])
    refine wpAnyH_take (i := 10) (oi := _) (v := ?_) rfl (by kernel_rfl) (by kernel_rfl) (by kernel_rfl) (fun _ _ _ h => h) (Or.inl ⟨?_, ?_⟩) hH2 ?_
    rotate_left
    · kernel_rfl
    · (intro W' hSw; skip; go_simp; (try with_reducible rfl))
    (try simp only [List.getElem_toArray])
    (try simp only [List.getElem_cons_succ])
    (try simp only [List.getElem_cons_zero])
    (try simp only [Act.put])
    (try simp only [List.setIfInBounds_toArray])
    (try simp only [List.set_cons_succ])
    (try simp only [List.set_cons_zero])
    refine wpAnyH_take (i := 11) (oi := _) (v := ?_) rfl (by kernel_rfl) (by kernel_rfl) (by kernel_rfl) (fun _ _ _ h => h) (Or.inl ⟨?_, ?_⟩) hH2 ?_
    rotate_left
    · kernel_rfl
    · (intro W' hSw; skip; go_simp; (try with_reducible rfl))
    (try simp only [List.getElem_toArray])
    (try simp only [List.getElem_cons_succ])
    (try simp only [List.getElem_cons_zero])
    (try simp only [Act.put])
    (try simp only [List.setIfInBounds_toArray])
    (try simp only [List.set_cons_succ])
    (try simp only [List.set_cons_zero])
    refine wpAnyH_done (by kernel_rfl) ?_ _
    go_wp2_with fail
    go_ret
    exact ⟨rfl, hH2⟩
  · have v1 : (ltB c != ltB D) = true := by rw [bne_iff_ne]; exact he
    obtain ⟨B, hB⟩ : ∃ B, ltB c = B := ⟨_, rfl⟩
    obtain ⟨B2, hB2⟩ : ∃ B, ltB D = B := ⟨_, rfl⟩
    rw [hB, hB2] at v1
    have v2 : (!(B == B2)) = true := v1
    rw [hB] at L1
    rw [hB2] at L2
    have L3 := Lib.hid L1
    have L4 := Lib.hid L2
    clear hok P3 hso1 L1 L2 hk hV he hB hB2 q10 S4
    go_enter Try.func7, Try.ntmps7
    go_wp2_with fail
    with_reducible refine (M2.out _).mono ?_
    rintro e w1 ⟨rfl, q1⟩
    have HB1 := Lib.hid (btr HB0.out q1)
    clear q1
    go_wp2_with fail
    with_reducible refine (S2.out _).mono ?_
    rintro e wz ⟨rfl, rfl⟩
    have kt := KT.out
    go_wp2_with fail
    clear kt
    have cv := CV.out w1
    go_region
    clear cv
    have HB2 := Lib.hid (bdr (bal HB1.out (.cells #[.int .u8 (c.toNat : Int)] 5)))
    generalize (w1.alloc (.cells #[.int .u8 (c.toNat : Int)] 5)).drew = w2 at HB2 ⊢
    clear HB1
    go_wp2_with fail
    refine wp_region_held_drew (S := (fun W => Below w.heap.size w W)) (by kernel_rfl) (bdr HB2.out) (fun hH0 => ?_)
    refine wpAnyH_take (i := 0) (oi := _) (v := ?_) rfl (by kernel_rfl) (by kernel_rfl) (by kernel_rfl) (fun _ _ _ h => h) (Or.inl ⟨?_, ?_⟩) hH0 ?_
    rotate_left
    · kernel_rfl
    · (intro W' hSw; skip; go_simp; (try with_reducible rfl))
    (try simp only [List.getElem_toArray])
    (try simp only [List.getElem_cons_succ])
    (try simp only [List.getElem_cons_zero])
    (try simp only [Act.put])
    (try simp only [List.setIfInBounds_toArray])
    (try simp only [List.set_cons_succ])
    (try simp only [List.set_cons_zero])
    have cv := CV.out w2
    refine wpAnyH_ready (rs := [1]) (by kernel_rfl) (by simp) ?_
    refine AllReadyH.cons (o := _) rfl (fun K hK => ?_) AllReadyH.nil
    go_simp
    refine hK.out _ _ (by first | exact bdr (bal HB2.out _) | exact bal (bdr HB2.out) _) (fun hH1 => ?_)
    clear hK K
    (try simp only [List.getElem_toArray])
    (try simp only [List.getElem_cons_succ])
    (try simp only [List.getElem_cons_zero])
    (try simp only [Act.put])
    (try simp only [List.setIfInBounds_toArray])
    (try simp only [List.set_cons_succ])
    (try simp only [List.set_cons_zero])
    refine wpAnyH_ready (rs := [2]) (by kernel_rfl) (by simp) ?_
    refine AllReadyH.cons (o := _) rfl (fun K hK => ?_) AllReadyH.nil
    go_simp
    refine hK.out _ _ (hH1) (fun hH2 => ?_)
    clear hK K
    (try simp only [List.getElem_toArray])
    (try simp only [List.getElem_cons_succ])
    (try simp only [List.getElem_cons_zero])
    (try simp only [Act.put])
    (try simp only [List.setIfInBounds_toArray])
    (try simp only [List.set_cons_succ])
    (try simp only [List.set_cons_zero])
    clear cv hH0 hH1
    generalize (w2.alloc (.cells #[.int .u8 (c.toNat : Int)] 5)).drew = w3 at hH2 ⊢
    clear HB2
    have g := G.out
    refine wpAnyH_ready (rs := [3]) (by kernel_rfl) (by simp) ?_
    refine AllReadyH.cons (o := _) rfl (fun K hK => ?_) AllReadyH.nil
    go_simp
    refine (P4.out _).mono ?_
    rintro e wz ⟨rfl, rfl⟩
    refine hK.out _ _ hH2 (fun hH3 => ?_)
    clear hK K
    (try simp only [List.getElem_toArray])
    (try simp only [List.getElem_cons_succ])
    (try simp only [List.getElem_cons_zero])
    (try simp only [Act.put])
    (try simp only [List.setIfInBounds_toArray])
    (try simp only [List.set_cons_succ])
    (try simp only [List.set_cons_zero])
    refine wpAnyH_take (i := 4) (oi := _) (v := ?_) rfl (by kernel_rfl) (by kernel_rfl) (by kernel_rfl) (fun _ _ _ h => h) (Or.inl ⟨?_, ?_⟩) hH3 ?_
    rotate_left
    · kernel_rfl
    · (intro W' hSw; skip; go_simp; (try with_reducible rfl))
    (try simp only [List.getElem_toArray])
    (try simp only [List.getElem_cons_succ])
    (try simp only [List.getElem_cons_zero])
    (try simp only [Act.put])
    (try simp only [List.setIfInBounds_toArray])
    (try simp only [List.set_cons_succ])
    (try simp only [List.set_cons_zero])
    refine wpAnyH_take (i := 5) (oi := _) (v := ?_) rfl (by kernel_rfl) (by kernel_rfl) (by kernel_rfl) (fun _ _ _ h => h) (Or.inl ⟨?_, ?_⟩) hH3 ?_
    rotate_left
    · kernel_rfl
    · (intro W' hSw; skip; go_simp; (try with_reducible rfl))
    (try simp only [List.getElem_toArray])
    (try simp only [List.getElem_cons_succ])
    (try simp only [List.getElem_cons_zero])
    (try simp only [Act.put])
    (try simp only [List.setIfInBounds_toArray])
    (try simp only [List.set_cons_succ])
    (try simp only [List.set_cons_zero])
    refine wpAnyH_take (i := 6) (oi := _) (v := ?_) rfl (by kernel_rfl) (by kernel_rfl) (by kernel_rfl) (fun _ _ _ h => h) (Or.inl ⟨?_, ?_⟩) hH3 ?_
    rotate_left
    · kernel_rfl
    · (intro W' hSw; skip; go_simp; (try with_reducible rfl))
    (try simp only [List.getElem_toArray])
    (try simp only [List.getElem_cons_succ])
    (try simp only [List.getElem_cons_zero])
    (try simp only [Act.put])
    (try simp only [List.setIfInBounds_toArray])
    (try simp only [List.set_cons_succ])
    (try simp only [List.set_cons_zero])
    refine wpAnyH_take (i := 8) (oi := _) (v := ?_) rfl (by kernel_rfl) (by kernel_rfl) (by kernel_rfl) (fun _ _ _ h => h) (Or.inl ⟨?_, ?_⟩) hH3 ?_
    rotate_left
    · kernel_rfl
    · (intro W' hSw; skip; go_simp; (try with_reducible rfl))
    (try simp only [List.getElem_toArray])
    (try simp only [List.getElem_cons_succ])
    (try simp only [List.getElem_cons_zero])
    (try simp only [Act.put])
    (try simp only [List.setIfInBounds_toArray])
    (try simp only [List.set_cons_succ])
    (try simp only [List.set_cons_zero])
    refine wpAnyH_take (i := 9) (oi := _) (v := ?_) rfl (by kernel_rfl) (by kernel_rfl) (by kernel_rfl) (fun _ _ _ h => h) (Or.inl ⟨?_, ?_⟩) hH3 ?_
    rotate_left
    · kernel_rfl
    · (intro W' hSw; skip; go_simp; (try with_reducible rfl))
    (try simp only [List.getElem_toArray])
    (try simp only [List.getElem_cons_succ])
    (try simp only [List.getElem_cons_zero])
    (try simp only [Act.put])
    (try simp only [List.setIfInBounds_toArray])
    (try simp only [List.set_cons_succ])
    (try simp only [List.set_cons_zero])
    refine wpAnyH_take (i := 10) (oi := _) (v := ?_) rfl (by kernel_rfl) (by kernel_rfl) (by kernel_rfl) (fun _ _ _ h => h) (Or.inl ⟨?_, ?_⟩) hH3 ?_
    rotate_left
    · kernel_rfl
    · (intro W' hSw; skip; go_simp; (try with_reducible rfl))
    (try simp only [List.getElem_toArray])
    (try simp only [List.getElem_cons_succ])
    (try simp only [List.getElem_cons_zero])
    (try simp only [Act.put])
    (try simp only [List.setIfInBounds_toArray])
    (try simp only [List.set_cons_succ])
    (try simp only [List.set_cons_zero])
    refine wpAnyH_ready (rs := [7]) (by kernel_rfl) (by simp) ?_
    refine AllReadyH.cons (o := _) rfl (fun K hK => ?_) AllReadyH.nil
    go_simp
    refine (L3.out _).mono ?_
    rintro e wz ⟨rfl, rfl⟩
    refine hK.out _ _ hH3 (fun hH4 => ?_)
    clear hK K
    (try simp only [List.getElem_toArray])
    (try simp only [List.getElem_cons_succ])
    (try simp only [List.getElem_cons_zero])
    (try simp only [Act.put])
    (try simp only [List.setIfInBounds_toArray])
    (try simp only [List.set_cons_succ])
    (try simp only [List.set_cons_zero])
    refine wpAnyH_ready (rs := [11]) (by kernel_rfl) (by simp) ?_
    refine AllReadyH.cons (o := _) rfl (fun K hK => ?_) AllReadyH.nil
    go_simp
    refine (L4.out _).mono ?_
    rintro e wz ⟨rfl, rfl⟩
    refine hK.out _ _ hH4 (fun hH5 => ?_)
    clear hK K
    (try simp only [List.getElem_toArray])
    (try simp only [List.getElem_cons_succ])
    (try simp only [List.getElem_cons_zero])
    (try simp only [Act.put])
    (try simp only [List.setIfInBounds_toArray])
    (try simp only [List.set_cons_succ])
    (try simp only [List.set_cons_zero])
    refine wpAnyH_take (i := 12) (oi := _) (v := ?_) rfl (by kernel_rfl) (by kernel_rfl) (by kernel_rfl) (fun _ _ _ h => h) (Or.inl ⟨?_, ?_⟩) hH5 ?_
    rotate_left
    · kernel_rfl
    · (intro W' hSw; skip; go_simp; (try with_reducible rfl))
    (try simp only [List.getElem_toArray])
    (try simp only [List.getElem_cons_succ])
    (try simp only [List.getElem_cons_zero])
    (try simp only [Act.put])
    (try simp only [List.setIfInBounds_toArray])
    (try simp only [List.set_cons_succ])
    (try simp only [List.set_cons_zero])
    refine wpAnyH_take (i := 13) (oi := _) (v := ?_) rfl (by kernel_rfl) (by kernel_rfl) (by kernel_rfl) (fun _ _ _ h => h) (Or.inl ⟨?_, ?_⟩) hH5 ?_
    rotate_left
    · kernel_rfl
    · (intro W' hSw; skip; go_simp; (try with_reducible rfl))
    (try simp only [List.getElem_toArray])
    (try simp only [List.getElem_cons_succ])
    (try simp only [List.getElem_cons_zero])
    (try simp only [Act.put])
    (try simp only [List.setIfInBounds_toArray])
    (try simp only [List.set_cons_succ])
    (try simp only [List.set_cons_zero])
    refine wpAnyH_done (by kernel_rfl) ?_ _
    clear g
    have HB9 := Lib.hid hH5
    clear hH2 hH3 hH4 hH5
    go_wp2_with fail
    with_reducible refine (LV.out _).mono ?_
    rintro e w10 ⟨rfl, q10⟩
    have HB10 := Lib.hid (btr HB9.out q10)
    clear q10
    go_wp2_with fail
    go_ret
    exact ⟨rfl, HB10.out⟩
end Go.Proofs.Ytamnpgcfgjlbeaa
