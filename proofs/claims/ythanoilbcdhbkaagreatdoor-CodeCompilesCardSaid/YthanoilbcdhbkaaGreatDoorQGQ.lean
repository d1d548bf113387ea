/-
  The document's Names: the walk of insert.
-/
import Derived.Test.YthanoilbcdhbkaaGreatDoorQGP
namespace Go.Proofs.YthanoilbcdhbkaaGreatDoor
open Go Go.RowKit Go.Lib Go.Shelf WM TM EM

theorem tx_drop {b off : Nat} {l : List Tx} {W : World} (h : TxAt (some ⟨b, off, none⟩) l W) (k : Nat) (hk : k ≤ l.length) : TxAt (some ⟨b, off + k, none⟩) (l.drop k) W := by
  intro i hi
  rw [List.length_drop] at hi
  obtain ⟨b', off', e, hb, c⟩ := h (k + i) (by omega)
  injection e with e
  injection e with e1 e2
  subst e1
  subst e2
  refine ⟨b, off + k, rfl, hb, ?_⟩
  have e : (l.drop k).getD i [] = l.getD (k + i) [] := by simp [List.getD]
  rw [e, Nat.add_assoc]
  exact c
theorem tvs_len (l : List Tx) : (tvs l).length = l.length := by simp [tvs]
theorem tx_take {ao : Option Addr} {l : List Tx} {W : World} (h : TxAt ao l W) (k : Nat) : TxAt ao (l.take k) W := by
  intro i hi
  rw [List.length_take] at hi
  obtain ⟨b, off, e, hb, c⟩ := h i (by omega)
  refine ⟨b, off, e, hb, ?_⟩
  have e2 : (l.take k).getD i [] = l.getD i [] := by simp [List.getD, show i < k by omega]
  rw [e2]
  exact c
set_option maxRecDepth 100000 in
set_option maxHeartbeats 4000000 in
theorem rinsert (ao : Option Addr) (c : Nat) (l : List Tx) (s : Tx) (w : World) (hl : l.length ≤ 1000000) (h : TxL ao c l w) :
    Calls Tryz.prog 93 #[.slice ao l.length c, .string (str s)] w fun r w' => ∃ bo d m, r = .returned (.slice bo m.length d) ∧ InsR l s m ∧ TxL bo d m w' ∧ Below w.heap.size w w' := by
  obtain ⟨i0, hi, hz0, hz1, hz2⟩ := info_parts infoStr
  have H := Lib.hid h
  obtain ⟨n, hn⟩ : ∃ n, l.length = n := ⟨_, rfl⟩
  have HN := Lib.hid hn
  rw [hn] at hl ⊢
  clear h hn
  go_enter Tryz.func93, Tryz.ntmps93
  go_wp2_with fail
  go_loopw [5] (fun x wr => ∃ k : Nat, k ≤ n ∧ x = .int .i64 k ∧ (∀ i, i < k → Op.bytesLess (l.getD i []) s = true) ∧ wr = w) (fun x _ => n - (RowKit.intOf x).toNat)
  case atStart => exact ⟨0, by omega, rfl, fun i hi => absurd hi (Nat.not_lt_zero _), rfl⟩
  case round =>
    obtain ⟨k, hk, rfl, hq, rfl⟩ := hrel
    have HQ := Lib.hid hq
    clear hq
    have hw := wrap_at k (by omega)
    by_cases hlt : k < n
    · have hkz : (k : Int) < (n : Int) := by omega
      have hk0 : ¬ ((k : Int) < 0) := by omega
      obtain ⟨b, off, rfl, hb, c0⟩ := H.out.1 k (by rw [HN.out]; exact hlt)
      obtain ⟨x, hx⟩ : ∃ x, l.getD k [] = x := ⟨_, rfl⟩
      rw [hx] at c0
      have HX := Lib.hid hx
      clear hx
      cases hbl : Op.bytesLess x s with
      | true =>
        have hbl2 : Op.bytesLess (str x).toList (str s).toList = true := by rw [toList_str, toList_str]; exact hbl
        have HB := Lib.hid hbl
        clear hbl
        go_wp2_with fail
        go_roundw
        case rel => exact ⟨k + 1, by omega, by go_num, fun i hi => by
          rcases Nat.lt_or_ge i k with h | h
          · exact HQ.out i h
          · have : i = k := by omega
            subst this
            rw [HX.out]; exact HB.out, by first | rfl | trivial⟩
        case measure => simp [RowKit.intOf]; omega
      | false =>
        have hbl2 : Op.bytesLess (str x).toList (str s).toList = false := by rw [toList_str, toList_str]; exact hbl
        have HB := Lib.hid hbl
        clear hbl
        by_cases he : x = s
        · subst he
          go_wp2_with fail
          go_ret
          exact ⟨_, _, l, by rw [HN.out]; rfl, ⟨k, by rw [HN.out]; exact hk, HQ.out, fun _ => by rw [HX.out]; exact HB.out, Or.inl ⟨by rw [HN.out]; exact hlt, HX.out, rfl⟩⟩, H.out, bref _⟩
        · have he2 := str_ne he
          have hkn : k ≤ n := hk
          have hcn := H.out.2.2
          rw [HN.out] at hcn
          have htl : (l.take k).length = k := by rw [List.length_take, HN.out]; omega
          have hdl : (l.drop k).length = n - k := by rw [List.length_drop, HN.out]
          have s2 := Lib.hid (tx_take H.out.1 k)
          have s3 := Lib.hid (tx_drop H.out.1 k (by rw [HN.out]; exact hk))
          have hs0 : ∀ W : World, W.heap.size ≤ (W.alloc (.cells #[.string (str s)] 9)).heap.size := fun W => by simp
          have hcI : (k : Int) ≤ (c : Int) := by omega
          have hnI : (k : Int) ≤ (n : Int) := by omega
          have hnI2 : (n : Int) ≤ (c : Int) := by omega
          go_wp2_with (first
            | (at_builtin; refine wpList_append_own_any rfl (.tmp 34) (.tmp 37) 71 rfl wr.heap.size 9 i0 (.string ⟨#[]⟩) 1 16 Tryz.underlying71 hi hz0 hz1 hz2 rfl (by decide) (.slice none 0 0) 0 (tvs []) rfl (World.ownsRow_nil _ _ _ _) (some ⟨b, off, none⟩) k c (tvs (l.take k)) rfl (by rw [tvs_len, htl, Nat.mul_one]) (fun h => by cases h) (news_ofT s2.out) (one_tvs _) (by unfold maxLen; omega) (by omega) (Nat.le_refl _) ?_; intro v2 w2 ox gx; have HB2 := Lib.hid ((bref wr).grown gx (Nat.le_refl _) (fun b hb => by cases hb)); have HO2 := Lib.hid ox; have hz2' := HB2.out.size; clear ox gx)
            | (at_builtin; refine wpList_append_own_any rfl (.tmp 39) (.tmp 41) 71 rfl wr.heap.size 9 i0 (.string ⟨#[]⟩) 1 16 Tryz.underlying71 hi hz0 hz1 hz2 rfl (by decide) v2 (0 + k) (tvs [] ++ tvs (l.take k)) rfl (own_below HO2.out (bal (bref _) _)) (some ⟨w2.heap.size, 0, none⟩) 1 1 (tvs [s]) rfl rfl (fun h => by cases h) (fun ad had j u hu => by cases had; match j, hu with | 0, hu => simp [tvs] at hu; subst hu; simp [Addr.add]) (one_tvs _) (by unfold maxLen; omega) (by omega) (Nat.le_trans hz2' (hs0 _)) ?_; intro v3 w3 ox gx; have HB3 := Lib.hid ((HB2.out.trans ((bal (bref w2) _).mono hz2')).grown gx (Nat.le_trans hz2' (hs0 _)) (fun b hb => (HO2.out.lt b hb).1)); have HO3 := Lib.hid ox; have hz3' := HB3.out.size; clear ox gx)
            | (at_builtin; refine wpList_append_own_any rfl (.tmp 43) (.tmp 46) 71 rfl wr.heap.size 9 i0 (.string ⟨#[]⟩) 1 16 Tryz.underlying71 hi hz0 hz1 hz2 rfl (by decide) v3 (0 + k + 1) (tvs [] ++ tvs (l.take k) ++ tvs [s]) rfl HO3.out (some ⟨b, off + k, none⟩) (n - k) (c - k) (tvs (l.drop k)) rfl (by rw [tvs_len, hdl, Nat.mul_one]) (fun h => by cases h) (news_ofT (s3.out.keep HB3.out)) (one_tvs _) (by unfold maxLen; omega) (by omega) hz3' ?_; intro v4 w4 ox gx; have HB4 := Lib.hid (HB3.out.grown gx hz3' (fun b hb => (HO3.out.lt b hb).1)); have HO4 := Lib.hid ox; clear ox gx))
          have HO5 := HO4.out
          rw [show tvs [] ++ tvs (l.take k) ++ tvs [s] ++ tvs (l.drop k) = tvs (l.take k ++ [s] ++ l.drop k) by simp [tvs]] at HO5
          obtain ⟨hlen, bo, d, rfl, hT⟩ := own_shapeT HO5
          have HTx := Lib.hid hT
          have HLn := Lib.hid hlen
          clear HO5 HO4 HO3 HO2 hT hlen
          go_wp2_with fail
          go_ret
          exact ⟨bo, d, l.take k ++ [s] ++ l.drop k, by rw [HLn.out]; rfl, ⟨k, by rw [HN.out]; exact hk, HQ.out, fun _ => by rw [HX.out]; exact HB.out, Or.inr ⟨fun h => he (HX.out.symm.trans h.2), rfl⟩⟩, HTx.out, HB4.out⟩
    · have he : k = n := by omega
      have hkz : ¬ ((k : Int) < (n : Int)) := by omega
      have hk0 : ¬ ((k : Int) < 0) := by omega
      by_cases hn0 : n = 0
      · have hl0 : l = [] := List.eq_nil_of_length_eq_zero (by rw [HN.out]; exact hn0)
        have hk00 : k = 0 := by omega
        subst hk00
        subst hn0
        subst hl0
        have hnn : ao = none → c = 0 := fun h => (H.out.2.1 h).2
        clear he hk hkz hk0 hw
        cases ao with
        | none =>
          have hc0 := hnn rfl
          subst hc0
          have hs0 : ∀ W : World, W.heap.size ≤ (W.alloc (.cells #[.string (str s)] 9)).heap.size := fun W => by simp
          go_wp2_with (first
            | (at_builtin; refine wpList_append_own_any rfl (.tmp 34) (.tmp 37) 71 rfl wr.heap.size 9 i0 (.string ⟨#[]⟩) 1 16 Tryz.underlying71 hi hz0 hz1 hz2 rfl (by decide) (.slice none 0 0) 0 (tvs []) rfl (World.ownsRow_nil _ _ _ _) _ 0 _ (tvs []) rfl rfl (fun h => by first | exact ⟨rfl, rfl⟩ | cases h) (fun ad _ j u hu => by simp [tvs] at hu) (one_tvs _) (by unfold maxLen; omega) (by omega) (Nat.le_refl _) ?_; intro v2 w2 ox gx; have HB2 := Lib.hid ((bref wr).grown gx (Nat.le_refl _) (fun b hb => by cases hb)); have HO2 := Lib.hid ox; have hz2' := HB2.out.size; clear ox gx)
            | (at_builtin; refine wpList_append_own_any rfl (.tmp 39) (.tmp 41) 71 rfl wr.heap.size 9 i0 (.string ⟨#[]⟩) 1 16 Tryz.underlying71 hi hz0 hz1 hz2 rfl (by decide) v2 (0 + 0) (tvs [] ++ tvs []) rfl (own_below HO2.out (bal (bref _) _)) (some ⟨w2.heap.size, 0, none⟩) 1 1 (tvs [s]) rfl rfl (fun h => by cases h) (fun ad had j u hu => by cases had; match j, hu with | 0, hu => simp [tvs] at hu; subst hu; simp [Addr.add]) (one_tvs _) (by unfold maxLen; omega) (by omega) (Nat.le_trans hz2' (hs0 _)) ?_; intro v3 w3 ox gx; have HB3 := Lib.hid ((HB2.out.trans ((bal (bref w2) _).mono hz2')).grown gx (Nat.le_trans hz2' (hs0 _)) (fun b hb => (HO2.out.lt b hb).1)); have HO3 := Lib.hid ox; have hz3' := HB3.out.size; clear ox gx)
            | (at_builtin; refine wpList_append_own_any rfl (.tmp 43) (.tmp 46) 71 rfl wr.heap.size 9 i0 (.string ⟨#[]⟩) 1 16 Tryz.underlying71 hi hz0 hz1 hz2 rfl (by decide) v3 (0 + 0 + 1) (tvs [] ++ tvs [] ++ tvs [s]) rfl HO3.out _ 0 _ (tvs []) rfl rfl (fun h => by first | exact ⟨rfl, rfl⟩ | cases h) (fun ad _ j u hu => by simp [tvs] at hu) (one_tvs _) (by unfold maxLen; omega) (by omega) hz3' ?_; intro v4 w4 ox gx; have HB4 := Lib.hid (HB3.out.grown gx hz3' (fun b hb => (HO3.out.lt b hb).1)); have HO4 := Lib.hid ox; clear ox gx))
          have HO5 := HO4.out
          rw [show tvs [] ++ tvs [] ++ tvs [s] ++ tvs [] = tvs [s] by simp [tvs]] at HO5
          obtain ⟨hlen, bo, d, rfl, hT⟩ := own_shapeT HO5
          have HTx := Lib.hid hT
          clear HO5 HO4 HO3 HO2 hT hlen
          go_wp2_with fail
          go_ret
          exact ⟨bo, d, [s], rfl, ⟨0, Nat.le_refl _, fun i hi => absurd hi (Nat.not_lt_zero _), fun h => absurd h (by decide), Or.inr ⟨fun h => absurd h.1 (by decide), rfl⟩⟩, HTx.out, HB4.out⟩
        | some ad =>
          obtain ⟨b, off, sp⟩ := ad
          have hs0 : ∀ W : World, W.heap.size ≤ (W.alloc (.cells #[.string (str s)] 9)).heap.size := fun W => by simp
          go_wp2_with (first
            | (at_builtin; refine wpList_append_own_any rfl (.tmp 34) (.tmp 37) 71 rfl wr.heap.size 9 i0 (.string ⟨#[]⟩) 1 16 Tryz.underlying71 hi hz0 hz1 hz2 rfl (by decide) (.slice none 0 0) 0 (tvs []) rfl (World.ownsRow_nil _ _ _ _) _ 0 _ (tvs []) rfl rfl (fun h => by first | exact ⟨rfl, rfl⟩ | cases h) (fun ad _ j u hu => by simp [tvs] at hu) (one_tvs _) (by unfold maxLen; omega) (by omega) (Nat.le_refl _) ?_; intro v2 w2 ox gx; have HB2 := Lib.hid ((bref wr).grown gx (Nat.le_refl _) (fun b hb => by cases hb)); have HO2 := Lib.hid ox; have hz2' := HB2.out.size; clear ox gx)
            | (at_builtin; refine wpList_append_own_any rfl (.tmp 39) (.tmp 41) 71 rfl wr.heap.size 9 i0 (.string ⟨#[]⟩) 1 16 Tryz.underlying71 hi hz0 hz1 hz2 rfl (by decide) v2 (0 + 0) (tvs [] ++ tvs []) rfl (own_below HO2.out (bal (bref _) _)) (some ⟨w2.heap.size, 0, none⟩) 1 1 (tvs [s]) rfl rfl (fun h => by cases h) (fun ad had j u hu => by cases had; match j, hu with | 0, hu => simp [tvs] at hu; subst hu; simp [Addr.add]) (one_tvs _) (by unfold maxLen; omega) (by omega) (Nat.le_trans hz2' (hs0 _)) ?_; intro v3 w3 ox gx; have HB3 := Lib.hid ((HB2.out.trans ((bal (bref w2) _).mono hz2')).grown gx (Nat.le_trans hz2' (hs0 _)) (fun b hb => (HO2.out.lt b hb).1)); have HO3 := Lib.hid ox; have hz3' := HB3.out.size; clear ox gx)
            | (at_builtin; refine wpList_append_own_any rfl (.tmp 43) (.tmp 46) 71 rfl wr.heap.size 9 i0 (.string ⟨#[]⟩) 1 16 Tryz.underlying71 hi hz0 hz1 hz2 rfl (by decide) v3 (0 + 0 + 1) (tvs [] ++ tvs [] ++ tvs [s]) rfl HO3.out _ 0 _ (tvs []) rfl rfl (fun h => by first | exact ⟨rfl, rfl⟩ | cases h) (fun ad _ j u hu => by simp [tvs] at hu) (one_tvs _) (by unfold maxLen; omega) (by omega) hz3' ?_; intro v4 w4 ox gx; have HB4 := Lib.hid (HB3.out.grown gx hz3' (fun b hb => (HO3.out.lt b hb).1)); have HO4 := Lib.hid ox; clear ox gx))
          have HO5 := HO4.out
          rw [show tvs [] ++ tvs [] ++ tvs [s] ++ tvs [] = tvs [s] by simp [tvs]] at HO5
          obtain ⟨hlen, bo, d, rfl, hT⟩ := own_shapeT HO5
          have HTx := Lib.hid hT
          clear HO5 HO4 HO3 HO2 hT hlen
          go_wp2_with fail
          go_ret
          exact ⟨bo, d, [s], rfl, ⟨0, Nat.le_refl _, fun i hi => absurd hi (Nat.not_lt_zero _), fun h => absurd h (by decide), Or.inr ⟨fun h => absurd h.1 (by decide), rfl⟩⟩, HTx.out, HB4.out⟩
      · obtain ⟨b, off, rfl, hb, _⟩ := H.out.1 0 (by rw [HN.out]; omega)
        have HE := Lib.hid he
        have HD0 : Hid (l.drop k = []) := Lib.hid (List.drop_eq_nil_of_le (by rw [HN.out]; omega))
        clear he
        by_cases hck : k = c
        · subst hck
          have hkn : k ≤ n := hk
          have hcn := H.out.2.2
          rw [HN.out] at hcn
          have htl : (l.take k).length = k := by rw [List.length_take, HN.out]; omega
          have hdl : (l.drop k).length = n - k := by rw [List.length_drop, HN.out]
          have s2 := Lib.hid (tx_take H.out.1 k)
          have s3 := Lib.hid (tx_drop H.out.1 k (by rw [HN.out]; exact hk))
          have hs0 : ∀ W : World, W.heap.size ≤ (W.alloc (.cells #[.string (str s)] 9)).heap.size := fun W => by simp
          have hcI : (k : Int) ≤ (k : Int) := by omega
          have hnI : (k : Int) ≤ (n : Int) := by omega
          have hnI2 : (n : Int) ≤ (k : Int) := by omega
          go_wp2_with (first
            | (at_builtin; refine wpList_append_own_any rfl (.tmp 34) (.tmp 37) 71 rfl wr.heap.size 9 i0 (.string ⟨#[]⟩) 1 16 Tryz.underlying71 hi hz0 hz1 hz2 rfl (by decide) (.slice none 0 0) 0 (tvs []) rfl (World.ownsRow_nil _ _ _ _) (some ⟨b, off, none⟩) k k (tvs (l.take k)) rfl (by rw [tvs_len, htl, Nat.mul_one]) (fun h => by cases h) (news_ofT s2.out) (one_tvs _) (by unfold maxLen; omega) (by omega) (Nat.le_refl _) ?_; intro v2 w2 ox gx; have HB2 := Lib.hid ((bref wr).grown gx (Nat.le_refl _) (fun b hb => by cases hb)); have HO2 := Lib.hid ox; have hz2' := HB2.out.size; clear ox gx)
            | (at_builtin; refine wpList_append_own_any rfl (.tmp 39) (.tmp 41) 71 rfl wr.heap.size 9 i0 (.string ⟨#[]⟩) 1 16 Tryz.underlying71 hi hz0 hz1 hz2 rfl (by decide) v2 (0 + k) (tvs [] ++ tvs (l.take k)) rfl (own_below HO2.out (bal (bref _) _)) (some ⟨w2.heap.size, 0, none⟩) 1 1 (tvs [s]) rfl rfl (fun h => by cases h) (fun ad had j u hu => by cases had; match j, hu with | 0, hu => simp [tvs] at hu; subst hu; simp [Addr.add]) (one_tvs _) (by unfold maxLen; omega) (by omega) (Nat.le_trans hz2' (hs0 _)) ?_; intro v3 w3 ox gx; have HB3 := Lib.hid ((HB2.out.trans ((bal (bref w2) _).mono hz2')).grown gx (Nat.le_trans hz2' (hs0 _)) (fun b hb => (HO2.out.lt b hb).1)); have HO3 := Lib.hid ox; have hz3' := HB3.out.size; clear ox gx)
            | (at_builtin; refine wpList_append_own_any rfl (.tmp 43) (.tmp 46) 71 rfl wr.heap.size 9 i0 (.string ⟨#[]⟩) 1 16 Tryz.underlying71 hi hz0 hz1 hz2 rfl (by decide) v3 (0 + k + 1) (tvs [] ++ tvs (l.take k) ++ tvs [s]) rfl HO3.out _ 0 _ (tvs []) rfl rfl (fun h => by cases h) (fun ad _ j u hu => by simp [tvs] at hu) (one_tvs _) (by unfold maxLen; omega) (by omega) hz3' ?_; intro v4 w4 ox gx; have HB4 := Lib.hid (HB3.out.grown gx hz3' (fun b hb => (HO3.out.lt b hb).1)); have HO4 := Lib.hid ox; clear ox gx))
          have HO5 := HO4.out
          rw [show tvs [] ++ tvs (l.take k) ++ tvs [s] ++ tvs [] = tvs (l.take k ++ [s] ++ l.drop k) by rw [HD0.out]; simp [tvs]] at HO5
          obtain ⟨hlen, bo, d, rfl, hT⟩ := own_shapeT HO5
          have HTx := Lib.hid hT
          have HLn := Lib.hid hlen
          clear HO5 HO4 HO3 HO2 hT hlen
          go_wp2_with fail
          go_ret
          exact ⟨bo, d, l.take k ++ [s] ++ l.drop k, by rw [HLn.out]; rfl, ⟨k, by rw [HN.out]; exact hk, HQ.out, fun h => absurd h (by rw [HN.out]; have := HE.out; omega), Or.inr ⟨fun h => absurd h.1 (by rw [HN.out]; have := HE.out; omega), rfl⟩⟩, HTx.out, HB4.out⟩
        · have hck2 : ¬ ((k : Int) = (c : Int)) := by omega
          have hkn : k ≤ n := hk
          have hcn := H.out.2.2
          rw [HN.out] at hcn
          have htl : (l.take k).length = k := by rw [List.length_take, HN.out]; omega
          have hdl : (l.drop k).length = n - k := by rw [List.length_drop, HN.out]
          have s2 := Lib.hid (tx_take H.out.1 k)
          have s3 := Lib.hid (tx_drop H.out.1 k (by rw [HN.out]; exact hk))
          have hs0 : ∀ W : World, W.heap.size ≤ (W.alloc (.cells #[.string (str s)] 9)).heap.size := fun W => by simp
          have hcI : (k : Int) ≤ (c : Int) := by omega
          have hnI : (k : Int) ≤ (n : Int) := by omega
          have hnI2 : (n : Int) ≤ (c : Int) := by omega
          go_wp2_with (first
            | (at_builtin; refine wpList_append_own_any rfl (.tmp 34) (.tmp 37) 71 rfl wr.heap.size 9 i0 (.string ⟨#[]⟩) 1 16 Tryz.underlying71 hi hz0 hz1 hz2 rfl (by decide) (.slice none 0 0) 0 (tvs []) rfl (World.ownsRow_nil _ _ _ _) (some ⟨b, off, none⟩) k c (tvs (l.take k)) rfl (by rw [tvs_len, htl, Nat.mul_one]) (fun h => by cases h) (news_ofT s2.out) (one_tvs _) (by unfold maxLen; omega) (by omega) (Nat.le_refl _) ?_; intro v2 w2 ox gx; have HB2 := Lib.hid ((bref wr).grown gx (Nat.le_refl _) (fun b hb => by cases hb)); have HO2 := Lib.hid ox; have hz2' := HB2.out.size; clear ox gx)
            | (at_builtin; refine wpList_append_own_any rfl (.tmp 39) (.tmp 41) 71 rfl wr.heap.size 9 i0 (.string ⟨#[]⟩) 1 16 Tryz.underlying71 hi hz0 hz1 hz2 rfl (by decide) v2 (0 + k) (tvs [] ++ tvs (l.take k)) rfl (own_below HO2.out (bal (bref _) _)) (some ⟨w2.heap.size, 0, none⟩) 1 1 (tvs [s]) rfl rfl (fun h => by cases h) (fun ad had j u hu => by cases had; match j, hu with | 0, hu => simp [tvs] at hu; subst hu; simp [Addr.add]) (one_tvs _) (by unfold maxLen; omega) (by omega) (Nat.le_trans hz2' (hs0 _)) ?_; intro v3 w3 ox gx; have HB3 := Lib.hid ((HB2.out.trans ((bal (bref w2) _).mono hz2')).grown gx (Nat.le_trans hz2' (hs0 _)) (fun b hb => (HO2.out.lt b hb).1)); have HO3 := Lib.hid ox; have hz3' := HB3.out.size; clear ox gx)
            | (at_builtin; refine wpList_append_own_any rfl (.tmp 43) (.tmp 46) 71 rfl wr.heap.size 9 i0 (.string ⟨#[]⟩) 1 16 Tryz.underlying71 hi hz0 hz1 hz2 rfl (by decide) v3 (0 + k + 1) (tvs [] ++ tvs (l.take k) ++ tvs [s]) rfl HO3.out _ (n - k) _ (tvs (l.drop k)) rfl (by rw [tvs_len, hdl, Nat.mul_one]) (fun h => by cases h) (fun ad _ j u hu => by rw [HD0.out] at hu; simp [tvs] at hu) (one_tvs _) (by unfold maxLen; omega) (by omega) hz3' ?_; intro v4 w4 ox gx; have HB4 := Lib.hid (HB3.out.grown gx hz3' (fun b hb => (HO3.out.lt b hb).1)); have HO4 := Lib.hid ox; clear ox gx))
          have HO5 := HO4.out
          rw [show tvs [] ++ tvs (l.take k) ++ tvs [s] ++ tvs (l.drop k) = tvs (l.take k ++ [s] ++ l.drop k) by simp [tvs]] at HO5
          obtain ⟨hlen, bo, d, rfl, hT⟩ := own_shapeT HO5
          have HTx := Lib.hid hT
          have HLn := Lib.hid hlen
          clear HO5 HO4 HO3 HO2 hT hlen
          go_wp2_with fail
          go_ret
          exact ⟨bo, d, l.take k ++ [s] ++ l.drop k, by rw [HLn.out]; rfl, ⟨k, by rw [HN.out]; exact hk, HQ.out, fun h => absurd h (by rw [HN.out]; have := HE.out; omega), Or.inr ⟨fun h => absurd h.1 (by rw [HN.out]; have := HE.out; omega), rfl⟩⟩, HTx.out, HB4.out⟩
end Go.Proofs.YthanoilbcdhbkaaGreatDoor
