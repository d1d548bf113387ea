/-
  Merged: The document's Names: the walk of insert. The document's Names.
-/
import Derived.Test.YtplkphihmfhciaaGreatDoorGP
/- The document's Names: the walk of insert. -/
namespace Go.Proofs.YtplkphihmfhciaaGreatDoor
open Go Go.RowKit Go.Lib Go.Shelf WM TM EM

theorem tx_drop {b off : Nat} {l : List Tx} {W : World} (h : TxAt (some ⟨b, off, none⟩) l W) (k : Nat) (hk : k ≤ l.length) : TxAt (some ⟨b, off + k, none⟩) (l.drop k) W := by
 intro i hi
 rw [List.length_drop] at hi
 obtain ⟨b', off', e, hb, c⟩ := h (k + i) (by omega)
 injection e with e
 injection e with e1 e2
 subst e1
 subst e2
 refine ⟨b, off + k, rfl, hb, ?_⟩
 have e : (l.drop k).getD i [] = l.getD (k + i) [] := by simp [List.getD]
 rw [e, Nat.add_assoc]
 exact c
theorem tvs_len (l : List Tx) : (tvs l).length = l.length := by simp [tvs]
theorem tx_take {ao : Option Addr} {l : List Tx} {W : World} (h : TxAt ao l W) (k : Nat) : TxAt ao (l.take k) W := by
 intro i hi
 rw [List.length_take] at hi
 obtain ⟨b, off, e, hb, c⟩ := h i (by omega)
 refine ⟨b, off, e, hb, ?_⟩
 have e2 : (l.take k).getD i [] = l.getD i [] := by simp [List.getD, show i < k by omega]
 rw [e2]
 exact c
set_option maxRecDepth 100000 in
set_option maxHeartbeats 4000000 in
theorem rinsert (ao : Option Addr) (c : Nat) (l : List Tx) (s : Tx) (w : World) (hl : l.length ≤ 1000000) (h : TxL ao c l w) :
  Calls Tryz.prog 43 #[.slice ao l.length c, .string (str s)] w fun r w' => ∃ bo d m, r = .returned (.slice bo m.length d) ∧ InsR l s m ∧ TxL bo d m w' ∧ Below w.heap.size w w' := by
 obtain ⟨i0, hi, hz0, hz1, hz2⟩ := info_parts infoStr
 have H := Lib.hid h
 obtain ⟨n, hn⟩ : ∃ n, l.length = n := ⟨_, rfl⟩
 have HN := Lib.hid hn
 rw [hn] at hl ⊢
 clear h hn
 go_enter Tryz.func43, Tryz.ntmps43
 go_wp2_with fail
 go_loopw [5] (fun x wr => ∃ k : Nat, k ≤ n ∧ x = .int .i64 k ∧ (∀ i, i < k → Op.bytesLess (l.getD i []) s = true) ∧ wr = w) (fun x _ => n - (RowKit.intOf x).toNat)
 case atStart => exact ⟨0, by omega, rfl, fun i hi => absurd hi (Nat.not_lt_zero _), rfl⟩
 case round =>
  obtain ⟨k, hk, rfl, hq, rfl⟩ := hrel
  have HQ := Lib.hid hq
  clear hq
  have hw := wrap_at k (by omega)
  by_cases hlt : k < n
  ·have hkz : (k : Int) < (n : Int) := by omega
   have hk0 : ¬ ((k : Int) < 0) := by omega
   obtain ⟨b, off, rfl, hb, c0⟩ := H.out.1 k (by rw [HN.out]; exact hlt)
   obtain ⟨x, hx⟩ : ∃ x, l.getD k [] = x := ⟨_, rfl⟩
   rw [hx] at c0
   have HX := Lib.hid hx
   clear hx
   cases hbl : Op.bytesLess x s with
   | true =>
    have hbl2 : Op.bytesLess (str x).toList (str s).toList = true := by rw [toList_str, toList_str]; exact hbl
    have HB := Lib.hid hbl
    clear hbl
    go_wp2_with fail
    go_roundw
    case rel => exact ⟨k + 1, by omega, by go_num, fun i hi => by
     rcases Nat.lt_or_ge i k with h | h
     ·exact HQ.out i h
     ·have : i = k := by omega
      subst this
      rw [HX.out]; exact HB.out, by first | rfl | trivial⟩
    case measure => simp [RowKit.intOf]; omega
   | false =>
    have hbl2 : Op.bytesLess (str x).toList (str s).toList = false := by rw [toList_str, toList_str]; exact hbl
    have HB := Lib.hid hbl
    clear hbl
    by_cases he : x = s
    ·subst he
     go_wp2_with fail
     go_ret
     exact ⟨_, _, l, by rw [HN.out]; rfl, ⟨k, by rw [HN.out]; exact hk, HQ.out, fun _ => by rw [HX.out]; exact HB.out, Or.inl ⟨by rw [HN.out]; exact hlt, HX.out, rfl⟩⟩, H.out, bref _⟩
    ·have he2 := str_ne he
     have hkn : k ≤ n := hk
     have hcn := H.out.2.2
     rw [HN.out] at hcn
     have htl : (l.take k).length = k := by rw [List.length_take, HN.out]; omega
     have hdl : (l.drop k).length = n - k := by rw [List.length_drop, HN.out]
     have s2 := Lib.hid (tx_take H.out.1 k)
     have s3 := Lib.hid (tx_drop H.out.1 k (by rw [HN.out]; exact hk))
     have hs0 : ∀ W : World, W.heap.size ≤ (W.alloc (.cells #[.string (str s)] 9)).heap.size := fun W => by simp
     have hcI : (k : Int) ≤ (c : Int) := by omega
     have hnI : (k : Int) ≤ (n : Int) := by omega
     have hnI2 : (n : Int) ≤ (c : Int) := by omega
     go_wp2_with (first
      | (at_builtin; refine wpList_append_own_any rfl (.tmp 34) (.tmp 37) 41 rfl wr.heap.size 9 i0 (.string ⟨#[]⟩) 1 16 Tryz.underlying41 hi hz0 hz1 hz2 rfl (by decide) (.slice none 0 0) 0 (tvs []) rfl (World.ownsRow_nil _ _ _ _) (some ⟨b, off, none⟩) k c (tvs (l.take k)) rfl (by rw [tvs_len, htl, Nat.mul_one]) (fun h => by cases h) (news_ofT s2.out) (one_tvs _) (by unfold maxLen; omega) (by omega) (Nat.le_refl _) ?_; intro v2 w2 ox gx; have HB2 := Lib.hid ((bref wr).grown gx (Nat.le_refl _) (fun b hb => by cases hb)); have HO2 := Lib.hid ox; have hz2' := HB2.out.size; clear ox gx)
      | (at_builtin; refine wpList_append_own_any rfl (.tmp 39) (.tmp 41) 41 rfl wr.heap.size 9 i0 (.string ⟨#[]⟩) 1 16 Tryz.underlying41 hi hz0 hz1 hz2 rfl (by decide) v2 (0 + k) (tvs [] ++ tvs (l.take k)) rfl (own_below HO2.out (bal (bref _) _)) (some ⟨w2.heap.size, 0, none⟩) 1 1 (tvs [s]) rfl rfl (fun h => by cases h) (fun ad had j u hu => by cases had; match j, hu with | 0, hu => simp [tvs] at hu; subst hu; simp [Addr.add]) (one_tvs _) (by unfold maxLen; omega) (by omega) (Nat.le_trans hz2' (hs0 _)) ?_; intro v3 w3 ox gx; have HB3 := Lib.hid ((HB2.out.trans ((bal (bref w2) _).mono hz2')).grown gx (Nat.le_trans hz2' (hs0 _)) (fun b hb => (HO2.out.lt b hb).1)); have HO3 := Lib.hid ox; have hz3' := HB3.out.size; clear ox gx)
      | (at_builtin; refine wpList_append_own_any rfl (.tmp 43) (.tmp 46) 41 rfl wr.heap.size 9 i0 (.string ⟨#[]⟩) 1 16 Tryz.underlying41 hi hz0 hz1 hz2 rfl (by decide) v3 (0 + k + 1) (tvs [] ++ tvs (l.take k) ++ tvs [s]) rfl HO3.out (some ⟨b, off + k, none⟩) (n - k) (c - k) (tvs (l.drop k)) rfl (by rw [tvs_len, hdl, Nat.mul_one]) (fun h => by cases h) (news_ofT (s3.out.keep HB3.out)) (one_tvs _) (by unfold maxLen; omega) (by omega) hz3' ?_; intro v4 w4 ox gx; have HB4 := Lib.hid (HB3.out.grown gx hz3' (fun b hb => (HO3.out.lt b hb).1)); have HO4 := Lib.hid ox; clear ox gx))
     have HO5 := HO4.out
     rw [show tvs [] ++ tvs (l.take k) ++ tvs [s] ++ tvs (l.drop k) = tvs (l.take k ++ [s] ++ l.drop k) by simp [tvs]] at HO5
     obtain ⟨hlen, bo, d, rfl, hT⟩ := own_shapeT HO5
     have HTx := Lib.hid hT
     have HLn := Lib.hid hlen
     clear HO5 HO4 HO3 HO2 hT hlen
     go_wp2_with fail
     go_ret
     exact ⟨bo, d, l.take k ++ [s] ++ l.drop k, by rw [HLn.out]; rfl, ⟨k, by rw [HN.out]; exact hk, HQ.out, fun _ => by rw [HX.out]; exact HB.out, Or.inr ⟨fun h => he (HX.out.symm.trans h.2), rfl⟩⟩, HTx.out, HB4.out⟩
  ·have he : k = n := by omega
   have hkz : ¬ ((k : Int) < (n : Int)) := by omega
   have hk0 : ¬ ((k : Int) < 0) := by omega
   by_cases hn0 : n = 0
   ·have hl0 : l = [] := List.eq_nil_of_length_eq_zero (by rw [HN.out]; exact hn0)
    have hk00 : k = 0 := by omega
    subst hk00
    subst hn0
    subst hl0
    have hnn : ao = none → c = 0 := fun h => (H.out.2.1 h).2
    clear he hk hkz hk0 hw
    cases ao with
    | none =>
     have hc0 := hnn rfl
     subst hc0
     have hs0 : ∀ W : World, W.heap.size ≤ (W.alloc (.cells #[.string (str s)] 9)).heap.size := fun W => by simp
     go_wp2_with (first
      | (at_builtin; refine wpList_append_own_any rfl (.tmp 34) (.tmp 37) 41 rfl wr.heap.size 9 i0 (.string ⟨#[]⟩) 1 16 Tryz.underlying41 hi hz0 hz1 hz2 rfl (by decide) (.slice none 0 0) 0 (tvs []) rfl (World.ownsRow_nil _ _ _ _) _ 0 _ (tvs []) rfl rfl (fun h => by first | exact ⟨rfl, rfl⟩ | cases h) (fun ad _ j u hu => by simp [tvs] at hu) (one_tvs _) (by unfold maxLen; omega) (by omega) (Nat.le_refl _) ?_; intro v2 w2 ox gx; have HB2 := Lib.hid ((bref wr).grown gx (Nat.le_refl _) (fun b hb => by cases hb)); have HO2 := Lib.hid ox; have hz2' := HB2.out.size; clear ox gx)
      | (at_builtin; refine wpList_append_own_any rfl (.tmp 39) (.tmp 41) 41 rfl wr.heap.size 9 i0 (.string ⟨#[]⟩) 1 16 Tryz.underlying41 hi hz0 hz1 hz2 rfl (by decide) v2 (0 + 0) (tvs [] ++ tvs []) rfl (own_below HO2.out (bal (bref _) _)) (some ⟨w2.heap.size, 0, none⟩) 1 1 (tvs [s]) rfl rfl (fun h => by cases h) (fun ad had j u hu => by cases had; match j, hu with | 0, hu => simp [tvs] at hu; subst hu; simp [Addr.add]) (one_tvs _) (by unfold maxLen; omega) (by omega) (Nat.le_trans hz2' (hs0 _)) ?_; intro v3 w3 ox gx; have HB3 := Lib.hid ((HB2.out.trans ((bal (bref w2) _).mono hz2')).grown gx (Nat.le_trans hz2' (hs0 _)) (fun b hb => (HO2.out.lt b hb).1)); have HO3 := Lib.hid ox; have hz3' := HB3.out.size; clear ox gx)
      | (at_builtin; refine wpList_append_own_any rfl (.tmp 43) (.tmp 46) 41 rfl wr.heap.size 9 i0 (.string ⟨#[]⟩) 1 16 Tryz.underlying41 hi hz0 hz1 hz2 rfl (by decide) v3 (0 + 0 + 1) (tvs [] ++ tvs [] ++ tvs [s]) rfl HO3.out _ 0 _ (tvs []) rfl rfl (fun h => by first | exact ⟨rfl, rfl⟩ | cases h) (fun ad _ j u hu => by simp [tvs] at hu) (one_tvs _) (by unfold maxLen; omega) (by omega) hz3' ?_; intro v4 w4 ox gx; have HB4 := Lib.hid (HB3.out.grown gx hz3' (fun b hb => (HO3.out.lt b hb).1)); have HO4 := Lib.hid ox; clear ox gx))
     have HO5 := HO4.out
     rw [show tvs [] ++ tvs [] ++ tvs [s] ++ tvs [] = tvs [s] by simp [tvs]] at HO5
     obtain ⟨hlen, bo, d, rfl, hT⟩ := own_shapeT HO5
     have HTx := Lib.hid hT
     clear HO5 HO4 HO3 HO2 hT hlen
     go_wp2_with fail
     go_ret
     exact ⟨bo, d, [s], rfl, ⟨0, Nat.le_refl _, fun i hi => absurd hi (Nat.not_lt_zero _), fun h => absurd h (by decide), Or.inr ⟨fun h => absurd h.1 (by decide), rfl⟩⟩, HTx.out, HB4.out⟩
    | some ad =>
     obtain ⟨b, off, sp⟩ := ad
     have hs0 : ∀ W : World, W.heap.size ≤ (W.alloc (.cells #[.string (str s)] 9)).heap.size := fun W => by simp
     go_wp2_with (first
      | (at_builtin; refine wpList_append_own_any rfl (.tmp 34) (.tmp 37) 41 rfl wr.heap.size 9 i0 (.string ⟨#[]⟩) 1 16 Tryz.underlying41 hi hz0 hz1 hz2 rfl (by decide) (.slice none 0 0) 0 (tvs []) rfl (World.ownsRow_nil _ _ _ _) _ 0 _ (tvs []) rfl rfl (fun h => by first | exact ⟨rfl, rfl⟩ | cases h) (fun ad _ j u hu => by simp [tvs] at hu) (one_tvs _) (by unfold maxLen; omega) (by omega) (Nat.le_refl _) ?_; intro v2 w2 ox gx; have HB2 := Lib.hid ((bref wr).grown gx (Nat.le_refl _) (fun b hb => by cases hb)); have HO2 := Lib.hid ox; have hz2' := HB2.out.size; clear ox gx)
      | (at_builtin; refine wpList_append_own_any rfl (.tmp 39) (.tmp 41) 41 rfl wr.heap.size 9 i0 (.string ⟨#[]⟩) 1 16 Tryz.underlying41 hi hz0 hz1 hz2 rfl (by decide) v2 (0 + 0) (tvs [] ++ tvs []) rfl (own_below HO2.out (bal (bref _) _)) (some ⟨w2.heap.size, 0, none⟩) 1 1 (tvs [s]) rfl rfl (fun h => by cases h) (fun ad had j u hu => by cases had; match j, hu with | 0, hu => simp [tvs] at hu; subst hu; simp [Addr.add]) (one_tvs _) (by unfold maxLen; omega) (by omega) (Nat.le_trans hz2' (hs0 _)) ?_; intro v3 w3 ox gx; have HB3 := Lib.hid ((HB2.out.trans ((bal (bref w2) _).mono hz2')).grown gx (Nat.le_trans hz2' (hs0 _)) (fun b hb => (HO2.out.lt b hb).1)); have HO3 := Lib.hid ox; have hz3' := HB3.out.size; clear ox gx)
      | (at_builtin; refine wpList_append_own_any rfl (.tmp 43) (.tmp 46) 41 rfl wr.heap.size 9 i0 (.string ⟨#[]⟩) 1 16 Tryz.underlying41 hi hz0 hz1 hz2 rfl (by decide) v3 (0 + 0 + 1) (tvs [] ++ tvs [] ++ tvs [s]) rfl HO3.out _ 0 _ (tvs []) rfl rfl (fun h => by first | exact ⟨rfl, rfl⟩ | cases h) (fun ad _ j u hu => by simp [tvs] at hu) (one_tvs _) (by unfold maxLen; omega) (by omega) hz3' ?_; intro v4 w4 ox gx; have HB4 := Lib.hid (HB3.out.grown gx hz3' (fun b hb => (HO3.out.lt b hb).1)); have HO4 := Lib.hid ox; clear ox gx))
     have HO5 := HO4.out
     rw [show tvs [] ++ tvs [] ++ tvs [s] ++ tvs [] = tvs [s] by simp [tvs]] at HO5
     obtain ⟨hlen, bo, d, rfl, hT⟩ := own_shapeT HO5
     have HTx := Lib.hid hT
     clear HO5 HO4 HO3 HO2 hT hlen
     go_wp2_with fail
     go_ret
     exact ⟨bo, d, [s], rfl, ⟨0, Nat.le_refl _, fun i hi => absurd hi (Nat.not_lt_zero _), fun h => absurd h (by decide), Or.inr ⟨fun h => absurd h.1 (by decide), rfl⟩⟩, HTx.out, HB4.out⟩
   ·obtain ⟨b, off, rfl, hb, _⟩ := H.out.1 0 (by rw [HN.out]; omega)
    have HE := Lib.hid he
    have HD0 : Hid (l.drop k = []) := Lib.hid (List.drop_eq_nil_of_le (by rw [HN.out]; omega))
    clear he
    by_cases hck : k = c
    ·subst hck
     have hkn : k ≤ n := hk
     have hcn := H.out.2.2
     rw [HN.out] at hcn
     have htl : (l.take k).length = k := by rw [List.length_take, HN.out]; omega
     have hdl : (l.drop k).length = n - k := by rw [List.length_drop, HN.out]
     have s2 := Lib.hid (tx_take H.out.1 k)
     have s3 := Lib.hid (tx_drop H.out.1 k (by rw [HN.out]; exact hk))
     have hs0 : ∀ W : World, W.heap.size ≤ (W.alloc (.cells #[.string (str s)] 9)).heap.size := fun W => by simp
     have hcI : (k : Int) ≤ (k : Int) := by omega
     have hnI : (k : Int) ≤ (n : Int) := by omega
     have hnI2 : (n : Int) ≤ (k : Int) := by omega
     go_wp2_with (first
      | (at_builtin; refine wpList_append_own_any rfl (.tmp 34) (.tmp 37) 41 rfl wr.heap.size 9 i0 (.string ⟨#[]⟩) 1 16 Tryz.underlying41 hi hz0 hz1 hz2 rfl (by decide) (.slice none 0 0) 0 (tvs []) rfl (World.ownsRow_nil _ _ _ _) (some ⟨b, off, none⟩) k k (tvs (l.take k)) rfl (by rw [tvs_len, htl, Nat.mul_one]) (fun h => by cases h) (news_ofT s2.out) (one_tvs _) (by unfold maxLen; omega) (by omega) (Nat.le_refl _) ?_; intro v2 w2 ox gx; have HB2 := Lib.hid ((bref wr).grown gx (Nat.le_refl _) (fun b hb => by cases hb)); have HO2 := Lib.hid ox; have hz2' := HB2.out.size; clear ox gx)
      | (at_builtin; refine wpList_append_own_any rfl (.tmp 39) (.tmp 41) 41 rfl wr.heap.size 9 i0 (.string ⟨#[]⟩) 1 16 Tryz.underlying41 hi hz0 hz1 hz2 rfl (by decide) v2 (0 + k) (tvs [] ++ tvs (l.take k)) rfl (own_below HO2.out (bal (bref _) _)) (some ⟨w2.heap.size, 0, none⟩) 1 1 (tvs [s]) rfl rfl (fun h => by cases h) (fun ad had j u hu => by cases had; match j, hu with | 0, hu => simp [tvs] at hu; subst hu; simp [Addr.add]) (one_tvs _) (by unfold maxLen; omega) (by omega) (Nat.le_trans hz2' (hs0 _)) ?_; intro v3 w3 ox gx; have HB3 := Lib.hid ((HB2.out.trans ((bal (bref w2) _).mono hz2')).grown gx (Nat.le_trans hz2' (hs0 _)) (fun b hb => (HO2.out.lt b hb).1)); have HO3 := Lib.hid ox; have hz3' := HB3.out.size; clear ox gx)
      | (at_builtin; refine wpList_append_own_any rfl (.tmp 43) (.tmp 46) 41 rfl wr.heap.size 9 i0 (.string ⟨#[]⟩) 1 16 Tryz.underlying41 hi hz0 hz1 hz2 rfl (by decide) v3 (0 + k + 1) (tvs [] ++ tvs (l.take k) ++ tvs [s]) rfl HO3.out _ 0 _ (tvs []) rfl rfl (fun h => by cases h) (fun ad _ j u hu => by simp [tvs] at hu) (one_tvs _) (by unfold maxLen; omega) (by omega) hz3' ?_; intro v4 w4 ox gx; have HB4 := Lib.hid (HB3.out.grown gx hz3' (fun b hb => (HO3.out.lt b hb).1)); have HO4 := Lib.hid ox; clear ox gx))
     have HO5 := HO4.out
     rw [show tvs [] ++ tvs (l.take k) ++ tvs [s] ++ tvs [] = tvs (l.take k ++ [s] ++ l.drop k) by rw [HD0.out]; simp [tvs]] at HO5
     obtain ⟨hlen, bo, d, rfl, hT⟩ := own_shapeT HO5
     have HTx := Lib.hid hT
     have HLn := Lib.hid hlen
     clear HO5 HO4 HO3 HO2 hT hlen
     go_wp2_with fail
     go_ret
     exact ⟨bo, d, l.take k ++ [s] ++ l.drop k, by rw [HLn.out]; rfl, ⟨k, by rw [HN.out]; exact hk, HQ.out, fun h => absurd h (by rw [HN.out]; have := HE.out; omega), Or.inr ⟨fun h => absurd h.1 (by rw [HN.out]; have := HE.out; omega), rfl⟩⟩, HTx.out, HB4.out⟩
    ·have hck2 : ¬ ((k : Int) = (c : Int)) := by omega
     have hkn : k ≤ n := hk
     have hcn := H.out.2.2
     rw [HN.out] at hcn
     have htl : (l.take k).length = k := by rw [List.length_take, HN.out]; omega
     have hdl : (l.drop k).length = n - k := by rw [List.length_drop, HN.out]
     have s2 := Lib.hid (tx_take H.out.1 k)
     have s3 := Lib.hid (tx_drop H.out.1 k (by rw [HN.out]; exact hk))
     have hs0 : ∀ W : World, W.heap.size ≤ (W.alloc (.cells #[.string (str s)] 9)).heap.size := fun W => by simp
     have hcI : (k : Int) ≤ (c : Int) := by omega
     have hnI : (k : Int) ≤ (n : Int) := by omega
     have hnI2 : (n : Int) ≤ (c : Int) := by omega
     go_wp2_with (first
      | (at_builtin; refine wpList_append_own_any rfl (.tmp 34) (.tmp 37) 41 rfl wr.heap.size 9 i0 (.string ⟨#[]⟩) 1 16 Tryz.underlying41 hi hz0 hz1 hz2 rfl (by decide) (.slice none 0 0) 0 (tvs []) rfl (World.ownsRow_nil _ _ _ _) (some ⟨b, off, none⟩) k c (tvs (l.take k)) rfl (by rw [tvs_len, htl, Nat.mul_one]) (fun h => by cases h) (news_ofT s2.out) (one_tvs _) (by unfold maxLen; omega) (by omega) (Nat.le_refl _) ?_; intro v2 w2 ox gx; have HB2 := Lib.hid ((bref wr).grown gx (Nat.le_refl _) (fun b hb => by cases hb)); have HO2 := Lib.hid ox; have hz2' := HB2.out.size; clear ox gx)
      | (at_builtin; refine wpList_append_own_any rfl (.tmp 39) (.tmp 41) 41 rfl wr.heap.size 9 i0 (.string ⟨#[]⟩) 1 16 Tryz.underlying41 hi hz0 hz1 hz2 rfl (by decide) v2 (0 + k) (tvs [] ++ tvs (l.take k)) rfl (own_below HO2.out (bal (bref _) _)) (some ⟨w2.heap.size, 0, none⟩) 1 1 (tvs [s]) rfl rfl (fun h => by cases h) (fun ad had j u hu => by cases had; match j, hu with | 0, hu => simp [tvs] at hu; subst hu; simp [Addr.add]) (one_tvs _) (by unfold maxLen; omega) (by omega) (Nat.le_trans hz2' (hs0 _)) ?_; intro v3 w3 ox gx; have HB3 := Lib.hid ((HB2.out.trans ((bal (bref w2) _).mono hz2')).grown gx (Nat.le_trans hz2' (hs0 _)) (fun b hb => (HO2.out.lt b hb).1)); have HO3 := Lib.hid ox; have hz3' := HB3.out.size; clear ox gx)
      | (at_builtin; refine wpList_append_own_any rfl (.tmp 43) (.tmp 46) 41 rfl wr.heap.size 9 i0 (.string ⟨#[]⟩) 1 16 Tryz.underlying41 hi hz0 hz1 hz2 rfl (by decide) v3 (0 + k + 1) (tvs [] ++ tvs (l.take k) ++ tvs [s]) rfl HO3.out _ (n - k) _ (tvs (l.drop k)) rfl (by rw [tvs_len, hdl, Nat.mul_one]) (fun h => by cases h) (fun ad _ j u hu => by rw [HD0.out] at hu; simp [tvs] at hu) (one_tvs _) (by unfold maxLen; omega) (by omega) hz3' ?_; intro v4 w4 ox gx; have HB4 := Lib.hid (HB3.out.grown gx hz3' (fun b hb => (HO3.out.lt b hb).1)); have HO4 := Lib.hid ox; clear ox gx))
     have HO5 := HO4.out
     rw [show tvs [] ++ tvs (l.take k) ++ tvs [s] ++ tvs (l.drop k) = tvs (l.take k ++ [s] ++ l.drop k) by simp [tvs]] at HO5
     obtain ⟨hlen, bo, d, rfl, hT⟩ := own_shapeT HO5
     have HTx := Lib.hid hT
     have HLn := Lib.hid hlen
     clear HO5 HO4 HO3 HO2 hT hlen
     go_wp2_with fail
     go_ret
     exact ⟨bo, d, l.take k ++ [s] ++ l.drop k, by rw [HLn.out]; rfl, ⟨k, by rw [HN.out]; exact hk, HQ.out, fun h => absurd h (by rw [HN.out]; have := HE.out; omega), Or.inr ⟨fun h => absurd h.1 (by rw [HN.out]; have := HE.out; omega), rfl⟩⟩, HTx.out, HB4.out⟩
end Go.Proofs.YtplkphihmfhciaaGreatDoor

/- The document's Names. -/
namespace Go.Proofs.YtplkphihmfhciaaGreatDoor
open Go Go.RowKit Go.Lib Go.Shelf WM TM EM

def OutI (out M : List Tx) : Prop := out.Pairwise (· < ·) ∧ ∀ s, s ∈ out ↔ s ∈ M
theorem OutI.len {out M : List Tx} (h : OutI out M) : out.length ≤ M.length := by
 have e : out = normT M := asc_ext h.1 (norm_pwT M) (fun s => (h.2 s).trans (norm_memT M s).symm)
 rw [e]; exact norm_lenT M
theorem OutI.ins {out M r : List Tx} {s : Tx} (h : OutI out M) (hi : InsR out s r) : OutI r (M ++ [s]) := by
 refine ⟨hi.asc h.1, fun x => ?_⟩
 rw [hi.mem, h.2, List.mem_append, List.mem_singleton]
 exact ⟨fun h => h.symm, fun h => h.symm⟩
theorem OutI.to {out M M' : List Tx} (h : OutI out M) (hm : ∀ s, s ∈ M ↔ s ∈ M') : OutI out M' := ⟨h.1, fun s => (h.2 s).trans (hm s)⟩
def ownN (o : Int) (s : Tx) : List Tx := if o = 4 then [s] else []
def Mi (o : Int) (s : Tx) (l : List Ex) (k : Nat) : List Tx := ownN o s ++ nmL (pres (l.take k))
theorem own_len (o : Int) (s : Tx) : (ownN o s).length ≤ 1 := by unfold ownN; split <;> simp
theorem Mi_len (o : Int) (s : Tx) (l : List Ex) (k : Nat) : (Mi o s l k).length ≤ 1 + sizs l := by
 unfold Mi
 rw [List.length_append]
 have h1 := own_len o s
 have h2 := nmL_len (pres (l.take k))
 have h3 : (pres (l.take k)).length = sizs (l.take k) := rfl
 have h4 := sizs_take_le l k
 omega
theorem Mi_next (o : Int) (s : Tx) (l : List Ex) (k : Nat) (hk : k < l.length) {ls : List Tx} (h : NmS (l.getD k E0) ls) (x : Tx) : x ∈ Mi o s l k ++ ls ↔ x ∈ Mi o s l (k + 1) := by
 have e : l.take (k + 1) = l.take k ++ [l.getD k E0] := by rw [List.take_succ_eq_append_getElem hk]; simp [List.getD, hk]
 unfold Mi
 rw [e, pres_app, nmL_app]
 have e2 : pres [l.getD k E0] = EM.pre (l.getD k E0) := by simp [pres]
 rw [e2]
 simp only [List.mem_append]
 rw [h.2]
 exact or_assoc
theorem Mi_all (e : Ex) (x : Tx) : x ∈ Mi e.op e.s e.args e.args.length ↔ x ∈ nmL (EM.pre e) := by
 obtain ⟨o, n, s, a⟩ := e
 unfold Mi ownN
 simp only [Ex.op, Ex.s, Ex.args, List.take_length]
 have : nmL (EM.pre (.mk o n s a)) = (if o = 4 then [s] else []) ++ nmL (pres a) := by
  simp only [EM.pre, nmL, List.filter_cons]
  by_cases h : o = 4
  ·simp [h, Ex.op, Ex.s]
  ·simp [h, Ex.op]
 rw [this]
 exact Iff.rfl
theorem take_snoc (l : List Tx) (k : Nat) (h : k < l.length) : l.take (k + 1) = l.take k ++ [l.getD k []] := by
 rw [List.take_succ_eq_append_getElem h]; simp [List.getD, h]
set_option maxRecDepth 100000 in
set_option maxHeartbeats 4000000 in
theorem rnames : ∀ (e : Ex) (so : Option Addr) (cap : Nat) (w : World), siz e ≤ 100000 → ExprsAt so e.args w →
  Calls Tryz.prog 23 #[.agg #[.int .i64 e.op, .int .i64 e.n, .string (str e.s), .slice so e.args.length cap]] w fun r w' => ∃ l ao c, r = .returned (.slice ao l.length c) ∧ NmS e l ∧ l.length ≤ siz e ∧ TxL ao c l w' ∧ Below w.heap.size w w' := by
 refine ex_ind _ fun e ih so cap w hm h => ?_
 obtain ⟨i0, hi, hz0, hz1, hz2⟩ := info_parts infoStr
 have HT := Lib.hid h
 obtain ⟨l, hl⟩ : ∃ l, e.args = l := ⟨_, rfl⟩
 obtain ⟨o, ho⟩ : ∃ o, e.op = o := ⟨_, rfl⟩
 obtain ⟨s, hs⟩ : ∃ s, e.s = s := ⟨_, rfl⟩
 obtain ⟨n, hn⟩ : ∃ n, l.length = n := ⟨_, rfl⟩
 have HA : Hid (e.op = o ∧ e.s = s ∧ e.args = l) := Lib.hid ⟨ho, hs, hl⟩
 have HR : Hid (1 + sizs l ≤ 100000) := Lib.hid (by rw [← hl, Nat.add_comm, ← siz_eq]; exact hm)
 rw [hl] at ih
 rw [hl] at HT h ⊢
 have IH := Lib.hid ih
 have HN := Lib.hid hn
 rw [hn, ho, hs]
 clear h ih hn hl hm ho hs
 by_cases h4 : o = 4
 ·have h4' : (o == 4) = true := by rw [beq_iff_eq]; exact h4
  have hown : Hid (ownN o s = [s]) := Lib.hid (by unfold ownN; rw [if_pos h4])
  clear h4
  go_enter Tryz.func23, Tryz.ntmps23
  have hb0 := bal (bref w) (.cells #[.int .i64 o, .int .i64 e.n, .string (str s), .slice so n cap] 27)
  have hs0 : w.heap.size ≤ ((w.alloc (.cells #[.int .i64 o, .int .i64 e.n, .string (str s), .slice so n cap] 27)).alloc (.cells #[.string (str s)] 9)).heap.size := by simp; omega
  go_wp2_with (first
   | (at_builtin; refine wpList_append_own_any rfl (.tmp 10) (.tmp 13) 41 rfl w.heap.size 9 i0 (.string ⟨#[]⟩) 1 16 Tryz.underlying41 hi hz0 hz1 hz2 rfl (by decide) (.slice none 0 0) 0 (tvs []) rfl (World.ownsRow_nil _ _ _ _) (some ⟨w.heap.size + 1, 0, none⟩) 1 1 (tvs [s]) rfl rfl (fun h => by cases h) (fun ad had j u hu => by cases had; match j, hu with | 0, hu => simp [tvs] at hu; subst hu; simp [go_sem, Addr.add]) (one_tvs _) (by unfold maxLen; omega) (by omega) hs0 ?_; intro v2 w2 ox gx; have HB2 := Lib.hid ((btr hb0 (bal (bref _) _)).grown gx hs0 (fun b hb => by cases hb)); have HG2 := Lib.hid gx; have HO2 := Lib.hid ox; clear ox gx))
  have HO5 := HO2.out
  rw [show tvs [] ++ tvs [s] = tvs [s] by simp [tvs]] at HO5
  obtain ⟨hlen, bo, d, rfl, hT⟩ := own_shapeT HO5
  have HT2 := Lib.hid hT
  have hc3 : w2.cell? ⟨w.heap.size, 3, none⟩ = some (.slice so n cap) := by
   have hbk := HG2.out.block w.heap.size (by simp; omega) (fun e => by cases e)
   rw [World.cell?_of_block (a := ⟨w.heap.size, 3, none⟩) hbk]
   simp [go_sem]
  clear HO5 HO2 hT hlen
  go_loopw [3, 4] (fun x i wr => ∃ (k : Nat) (out : List Tx) (ao : Option Addr) (c : Nat), k ≤ n ∧ x = .slice ao out.length c ∧ i = .int .i64 k ∧ TxL ao c out wr ∧ OutI out (Mi o s l k) ∧ wr.cell? ⟨w.heap.size, 3, none⟩ = some (.slice so n cap) ∧ Below w.heap.size w wr) (fun _ i _ => n - (RowKit.intOf i).toNat)
  case atStart => exact ⟨0, [s], bo, d, by omega, rfl, rfl, HT2.out, ⟨List.pairwise_singleton _ _, fun x => by unfold Mi; rw [hown.out]; simp [pres, nmL]⟩, hc3, HB2.out⟩
  case round =>
   obtain ⟨k, out, ao, c, hk, rfl, rfl, hT, hO, hc, hB⟩ := hrel
   have HTx := Lib.hid hT
   have HO := Lib.hid hO
   have HB := Lib.hid hB
   clear hT hO hB
   have hnb : n ≤ 100000 := by have h1 := sizs_len l; have h2 := HR.out; have h3 := HN.out; omega
   by_cases hlt : k < n
   ·have hkz : (k : Int) < (n : Int) := by omega
    obtain ⟨b, off, so2, cap2, rfl, hb, c0, c1, c2, c3, hs, _⟩ := (HT.out.keep HB.out).at k (by rw [HN.out]; exact hlt)
    have hsz := siz_mem (getD_mem'' E0 l k (by rw [HN.out]; exact hlt))
    have C0 := Lib.hid (fun W (hW : Below wr.heap.size wr W) => IH.out (l.getD k E0) (getD_mem'' _ _ _ (by rw [HN.out]; exact hlt)) so2 cap2 W (by have := HR.out; omega) (hs.keep hW))
    obtain ⟨x, hx⟩ : ∃ x, l.getD k E0 = x := ⟨_, rfl⟩
    have HX := Lib.hid hx
    rw [hx] at c0 c1 c2 c3 hsz
    rw [hx] at C0
    have HSX := Lib.hid hsz
    clear hs hx hsz
    go_wp2_with fail
    refine (C0.out _ (bref _)).mono ?_
    rintro r w1 ⟨ls, lo, lc, rfl, hNm, hll, hL1, hb1⟩
    have HNm := Lib.hid hNm
    have HL1 := Lib.hid hL1
    have HT1 := Lib.hid (HTx.out.keep hb1)
    have HB1 := Lib.hid (btr HB.out hb1)
    have hc1 := keepc hb1 hc
    have HLL := Lib.hid (Nat.le_trans hll HSX.out)
    obtain ⟨z, hz⟩ : ∃ z, ls.length = z := ⟨_, rfl⟩
    have HZ := Lib.hid hz
    rw [hz]
    have hzb : z ≤ 100000 := by have h1 := HLL.out; have h2 := HR.out; have h3 := HZ.out; omega
    clear hNm hL1 hb1 hll hz c0 c1 c2 c3 hc C0
    go_wp2_with fail
    obtain ⟨wr0, hwr0⟩ : ∃ q, q = wr := ⟨_, rfl⟩
    subst hwr0
    go_loopw [3, 6] (fun x i wq => ∃ (j : Nat) (out : List Tx) (ao : Option Addr) (c : Nat), j ≤ z ∧ x = .slice ao out.length c ∧ i = .int .i64 j ∧ TxL ao c out wq ∧ OutI out (Mi o s l k ++ ls.take j) ∧ wq.cell? ⟨w.heap.size, 3, none⟩ = some (.slice (some ⟨b, off, none⟩) n cap) ∧ Below w.heap.size w wq ∧ Below w1.heap.size w1 wq) (fun _ i _ => z - (RowKit.intOf i).toNat)
    case atStart => exact ⟨0, out, ao, c, by omega, rfl, rfl, HT1.out, by simpa using HO.out, hc1, HB1.out, bref _⟩
    case round =>
     obtain ⟨j, out2, ao2, c2, hj, rfl, rfl, hT2, hO2, hc2, hB2, hB3⟩ := hrel
     have HT2 := Lib.hid hT2
     have HO2 := Lib.hid hO2
     have HB2 := Lib.hid hB2
     have HB3 := Lib.hid hB3
     clear hT2 hO2 hB2 hB3
     by_cases hjl : j < z
     ·have hjz : (j : Int) < (z : Int) := by omega
      have hj0 : ¬ ((j : Int) < 0) := by omega
      obtain ⟨bb, fo, rfl, _, d0⟩ := (HL1.out.keep HB3.out).1 j (by rw [HZ.out]; exact hjl)
      have hol : out2.length ≤ 1000000 := by
       have h1 := HO2.out.len
       rw [List.length_append, List.length_take] at h1
       have h2 := Mi_len o s l k
       have h3 := HLL.out
       have h4 := HR.out
       have h5 := HZ.out
       have h6 : min j ls.length ≤ ls.length := Nat.min_le_right _ _
       omega
      have IN := Lib.hid (fun W (hW : Below wr.heap.size wr W) => rinsert ao2 c2 out2 (ls.getD j []) W hol (HT2.out.keep hW))
      have hts := take_snoc ls j (by rw [HZ.out]; exact hjl)
      obtain ⟨t, ht⟩ : ∃ t, ls.getD j [] = t := ⟨_, rfl⟩
      rw [ht] at d0 hts
      rw [ht] at IN
      have HTS := Lib.hid hts
      clear ht hts hol
      go_wp2_with fail
      refine (IN.out _ (bref _)).mono ?_
      rintro r w2 ⟨bo, d, m, rfl, hI, hT3, hb2⟩
      have HI := Lib.hid hI
      have HT3 := Lib.hid hT3
      have HBa := Lib.hid (btr HB2.out hb2)
      have HBb := Lib.hid (btr HB3.out hb2)
      have hc3 := keepc hb2 hc2
      clear hI hT3 hb2 d0 IN
      go_wp2_with fail
      go_roundw
      case rel => exact ⟨j + 1, m, bo, d, by omega, rfl, by go_num, HT3.out, by rw [HTS.out, ← List.append_assoc]; exact HO2.out.ins HI.out, hc3, HBa.out, HBb.out⟩
      case measure => simp [RowKit.intOf]; omega
     ·have he : j = z := by omega
      have HE : Hid (OutI out2 (Mi o s l (k + 1))) := Lib.hid (by
       have h := HO2.out
       rw [List.take_of_length_le (by rw [HZ.out]; omega)] at h
       exact h.to (Mi_next o s l k (by rw [HN.out]; exact hlt) (by rw [HX.out]; exact HNm.out)))
      have hjz : ¬ ((j : Int) < (z : Int)) := by omega
      clear he
      go_wp2_with fail
      go_roundw
      case rel => first | exact ⟨k + 1, by omega, out2, ao2, c2, ⟨rfl, rfl, rfl⟩, by go_num, HT2.out, HE.out, HB2.out⟩ | exact ⟨k + 1, out2, ao2, c2, by omega, rfl, rfl, HT2.out, HE.out, hc2, HB2.out⟩ | exact ⟨k + 1, out2, ao2, c2, by omega, rfl, by go_num, HT2.out, HE.out, hc2, HB2.out⟩
      case measure => simp [RowKit.intOf]; omega
   ·have he : k = n := by omega
    subst he
    have HF : Hid (OutI out (nmL (EM.pre e))) := Lib.hid (by
     have h := HO.out
     have h2 := HN.out
     have h3 := HA.out
     rw [← h3.1, ← h3.2.1, ← h3.2.2, ← h2, ← h3.2.2] at h
     exact h.to (Mi_all e))
    go_wp2_with fail
    go_ret
    exact ⟨out, ao, c, rfl, ⟨HF.out.1, HF.out.2⟩, by have h1 := HF.out.len; have h2 := nmL_len (EM.pre e); exact Nat.le_trans h1 h2, HTx.out, HB.out⟩
 ·have h4' : (o == 4) = false := by rw [beq_eq_false_iff_ne]; exact h4
  have hown : Hid (ownN o s = []) := Lib.hid (by unfold ownN; rw [if_neg h4])
  clear h4
  go_enter Tryz.func23, Tryz.ntmps23
  go_wp2_with fail
  go_loopw [3, 4] (fun x i wr => ∃ (k : Nat) (out : List Tx) (ao : Option Addr) (c : Nat), k ≤ n ∧ x = .slice ao out.length c ∧ i = .int .i64 k ∧ TxL ao c out wr ∧ OutI out (Mi o s l k) ∧ wr.cell? ⟨w.heap.size, 3, none⟩ = some (.slice so n cap) ∧ Below w.heap.size w wr) (fun _ i _ => n - (RowKit.intOf i).toNat)
  case atStart => exact ⟨0, [], none, 0, by omega, rfl, rfl, ⟨TxAt.nil _ _, fun _ => ⟨rfl, rfl⟩, Nat.le_refl _⟩, ⟨List.Pairwise.nil, fun x => by unfold Mi; rw [hown.out]; simp [pres, nmL]⟩, by simp [go_sem], by (repeat (first | exact bref _ | refine bdr ?_ | refine bal ?_ _))⟩
  case round =>
   obtain ⟨k, out, ao, c, hk, rfl, rfl, hT, hO, hc, hB⟩ := hrel
   have HTx := Lib.hid hT
   have HO := Lib.hid hO
   have HB := Lib.hid hB
   clear hT hO hB
   have hnb : n ≤ 100000 := by have h1 := sizs_len l; have h2 := HR.out; have h3 := HN.out; omega
   by_cases hlt : k < n
   ·have hkz : (k : Int) < (n : Int) := by omega
    obtain ⟨b, off, so2, cap2, rfl, hb, c0, c1, c2, c3, hs, _⟩ := (HT.out.keep HB.out).at k (by rw [HN.out]; exact hlt)
    have hsz := siz_mem (getD_mem'' E0 l k (by rw [HN.out]; exact hlt))
    have C0 := Lib.hid (fun W (hW : Below wr.heap.size wr W) => IH.out (l.getD k E0) (getD_mem'' _ _ _ (by rw [HN.out]; exact hlt)) so2 cap2 W (by have := HR.out; omega) (hs.keep hW))
    obtain ⟨x, hx⟩ : ∃ x, l.getD k E0 = x := ⟨_, rfl⟩
    have HX := Lib.hid hx
    rw [hx] at c0 c1 c2 c3 hsz
    rw [hx] at C0
    have HSX := Lib.hid hsz
    clear hs hx hsz
    go_wp2_with fail
    refine (C0.out _ (bref _)).mono ?_
    rintro r w1 ⟨ls, lo, lc, rfl, hNm, hll, hL1, hb1⟩
    have HNm := Lib.hid hNm
    have HL1 := Lib.hid hL1
    have HT1 := Lib.hid (HTx.out.keep hb1)
    have HB1 := Lib.hid (btr HB.out hb1)
    have hc1 := keepc hb1 hc
    have HLL := Lib.hid (Nat.le_trans hll HSX.out)
    obtain ⟨z, hz⟩ : ∃ z, ls.length = z := ⟨_, rfl⟩
    have HZ := Lib.hid hz
    rw [hz]
    have hzb : z ≤ 100000 := by have h1 := HLL.out; have h2 := HR.out; have h3 := HZ.out; omega
    clear hNm hL1 hb1 hll hz c0 c1 c2 c3 hc C0
    go_wp2_with fail
    obtain ⟨wr0, hwr0⟩ : ∃ q, q = wr := ⟨_, rfl⟩
    subst hwr0
    go_loopw [3, 6] (fun x i wq => ∃ (j : Nat) (out : List Tx) (ao : Option Addr) (c : Nat), j ≤ z ∧ x = .slice ao out.length c ∧ i = .int .i64 j ∧ TxL ao c out wq ∧ OutI out (Mi o s l k ++ ls.take j) ∧ wq.cell? ⟨w.heap.size, 3, none⟩ = some (.slice (some ⟨b, off, none⟩) n cap) ∧ Below w.heap.size w wq ∧ Below w1.heap.size w1 wq) (fun _ i _ => z - (RowKit.intOf i).toNat)
    case atStart => exact ⟨0, out, ao, c, by omega, rfl, rfl, HT1.out, by simpa using HO.out, hc1, HB1.out, bref _⟩
    case round =>
     obtain ⟨j, out2, ao2, c2, hj, rfl, rfl, hT2, hO2, hc2, hB2, hB3⟩ := hrel
     have HT2 := Lib.hid hT2
     have HO2 := Lib.hid hO2
     have HB2 := Lib.hid hB2
     have HB3 := Lib.hid hB3
     clear hT2 hO2 hB2 hB3
     by_cases hjl : j < z
     ·have hjz : (j : Int) < (z : Int) := by omega
      have hj0 : ¬ ((j : Int) < 0) := by omega
      obtain ⟨bb, fo, rfl, _, d0⟩ := (HL1.out.keep HB3.out).1 j (by rw [HZ.out]; exact hjl)
      have hol : out2.length ≤ 1000000 := by
       have h1 := HO2.out.len
       rw [List.length_append, List.length_take] at h1
       have h2 := Mi_len o s l k
       have h3 := HLL.out
       have h4 := HR.out
       have h5 := HZ.out
       have h6 : min j ls.length ≤ ls.length := Nat.min_le_right _ _
       omega
      have IN := Lib.hid (fun W (hW : Below wr.heap.size wr W) => rinsert ao2 c2 out2 (ls.getD j []) W hol (HT2.out.keep hW))
      have hts := take_snoc ls j (by rw [HZ.out]; exact hjl)
      obtain ⟨t, ht⟩ : ∃ t, ls.getD j [] = t := ⟨_, rfl⟩
      rw [ht] at d0 hts
      rw [ht] at IN
      have HTS := Lib.hid hts
      clear ht hts hol
      go_wp2_with fail
      refine (IN.out _ (bref _)).mono ?_
      rintro r w2 ⟨bo, d, m, rfl, hI, hT3, hb2⟩
      have HI := Lib.hid hI
      have HT3 := Lib.hid hT3
      have HBa := Lib.hid (btr HB2.out hb2)
      have HBb := Lib.hid (btr HB3.out hb2)
      have hc3 := keepc hb2 hc2
      clear hI hT3 hb2 d0 IN
      go_wp2_with fail
      go_roundw
      case rel => exact ⟨j + 1, m, bo, d, by omega, rfl, by go_num, HT3.out, by rw [HTS.out, ← List.append_assoc]; exact HO2.out.ins HI.out, hc3, HBa.out, HBb.out⟩
      case measure => simp [RowKit.intOf]; omega
     ·have he : j = z := by omega
      have HE : Hid (OutI out2 (Mi o s l (k + 1))) := Lib.hid (by
       have h := HO2.out
       rw [List.take_of_length_le (by rw [HZ.out]; omega)] at h
       exact h.to (Mi_next o s l k (by rw [HN.out]; exact hlt) (by rw [HX.out]; exact HNm.out)))
      have hjz : ¬ ((j : Int) < (z : Int)) := by omega
      clear he
      go_wp2_with fail
      go_roundw
      case rel => first | exact ⟨k + 1, by omega, out2, ao2, c2, ⟨rfl, rfl, rfl⟩, by go_num, HT2.out, HE.out, HB2.out⟩ | exact ⟨k + 1, out2, ao2, c2, by omega, rfl, rfl, HT2.out, HE.out, hc2, HB2.out⟩ | exact ⟨k + 1, out2, ao2, c2, by omega, rfl, by go_num, HT2.out, HE.out, hc2, HB2.out⟩
      case measure => simp [RowKit.intOf]; omega
   ·have he : k = n := by omega
    subst he
    have HF : Hid (OutI out (nmL (EM.pre e))) := Lib.hid (by
     have h := HO.out
     have h2 := HN.out
     have h3 := HA.out
     rw [← h3.1, ← h3.2.1, ← h3.2.2, ← h2, ← h3.2.2] at h
     exact h.to (Mi_all e))
    go_wp2_with fail
    go_ret
    exact ⟨out, ao, c, rfl, ⟨HF.out.1, HF.out.2⟩, by have h1 := HF.out.len; have h2 := nmL_len (EM.pre e); exact Nat.le_trans h1 h2, HTx.out, HB.out⟩
end Go.Proofs.YtplkphihmfhciaaGreatDoor
