/-
  Vars: the program's and the document's.
-/
import Derived.Test.YthanoilbcdhbkaaGreatDoorQZG
namespace Go.Proofs.YthanoilbcdhbkaaGreatDoor
open Go Go.RowKit Go.Lib Go.Shelf WM TM EM YM

theorem vE_var (s : List UInt8) : vE (.mk 4 0 s []) = if varOk s then 0 else 4 := by
 have h1 : dep (.mk 4 0 s []) ≤ 8 ∧ siz (.mk 4 0 s []) ≤ 64 := ⟨by rw [dep_eq]; show 0 + 1 ≤ 8; decide, by rw [siz_mk, sizs_nil]; decide⟩
 have h2 : right (.mk 4 0 s []) = true := by
  show (fmd (.mk 4 0 s []) && true) = true
  rw [Bool.and_true, fmd_eq]
  rfl
 have h3 : vnames (.mk 4 0 s []) = varOk s := by
  show (nameB (.mk 4 0 s []) && true) = varOk s
  rw [Bool.and_true]
  rfl
 unfold vE
 rw [if_neg (fun h => h h1), h2, h3]
 cases varOk s <;> rfl
theorem mvalid_var (X : ByteArray) (w : World) (hG : Ge w) :
  Calls Tryz.prog 47 #[.agg #[.int .i64 4, .int .i64 0, .string X, .slice none 0 0]] w fun r w' => r = .returned (.int .i64 (if varOk (byt X) then 0 else 4)) ∧ Below w.heap.size w w' := by
 have h := mvalidate (.mk 4 0 (byt X) []) none 0 w hG ⟨ExprsAt.nil _ _, fun _ => rfl⟩
 rw [vE_var] at h
 simp only [Ex.op, Ex.n, Ex.s, Ex.args, str_byt, List.length_nil] at h
 exact h
theorem vs_bad1 (l : List Vr) (k : Nat) (h : k < l.length) (h1 : varOk (l.getD k V0).1 = false) : vsL (l.take k) (l.drop k) = 4 := by rw [vs_step l k h, if_pos h1]
theorem vs_bad2 (l : List Vr) (k : Nat) (h : k < l.length) (h1 : varOk (l.getD k V0).1 = true) (h2 : ((l.take k).map Prod.fst).contains (l.getD k V0).1 = true) : vsL (l.take k) (l.drop k) = 12 := by
 rw [vs_step l k h, if_neg (by rw [h1]; decide), if_pos h2]
theorem vs_bad3 (l : List Vr) (k : Nat) (h : k < l.length) (h1 : varOk (l.getD k V0).1 = true) (h2 : ((l.take k).map Prod.fst).contains (l.getD k V0).1 = false) (h3 : good (l.getD k V0).2 = false) : vsL (l.take k) (l.drop k) = 3 := by
 rw [vs_step l k h, if_neg (by rw [h1]; decide), if_neg (by rw [h2]; decide), if_pos h3]
theorem vs_next (l : List Vr) (k : Nat) (h : k < l.length) (h1 : varOk (l.getD k V0).1 = true) (h2 : ((l.take k).map Prod.fst).contains (l.getD k V0).1 = false) (h3 : good (l.getD k V0).2 = true) : vsL (l.take k) (l.drop k) = vsL (l.take (k + 1)) (l.drop (k + 1)) := by
 rw [vs_step l k h, if_neg (by rw [h1]; decide), if_neg (by rw [h2]; decide), if_neg (by rw [h3]; decide)]
set_option maxRecDepth 100000 in
set_option maxHeartbeats 4000000 in
theorem mVars (l : List Vr) (ao : Option Addr) (cap : Nat) (w : World) (hG : Ge w) (hcap : l.length ≤ cap) (h : VarsAt ao l w) :
  Calls Tryz.prog 29 #[.slice ao l.length cap] w fun r w' => r = .returned (.int .i64 (vsE l)) ∧ Below w.heap.size w w' := by
 obtain ⟨n, hn⟩ : ∃ n, l.length = n := ⟨_, rfl⟩
 obtain ⟨R, hR⟩ : ∃ R, vsE l = R := ⟨_, rfl⟩
 have HI := Lib.hid h
 have HN := Lib.hid hn
 have HG := Lib.hid hG
 rw [hn] at hcap
 rw [hn, hR]
 by_cases h64 : 64 < n
 ·have hz : (64 : Int) < (n : Int) := by omega
  have hr : R = 5 := by rw [← hR]; unfold vsE; rw [hn, if_pos h64]
  subst hr
  clear h hR hn hG h64
  go_enter Tryz.func29, Tryz.ntmps29
  go_wp2_with fail
  go_ret
  exact ⟨rfl, by repeat (first | exact bref _ | refine bdr ?_ | refine bal ?_ _)⟩
 have hz : ¬ (64 : Int) < (n : Int) := by omega
 have hn64 : n ≤ 64 := by omega
 have HR := Lib.hid (show R = vsL (l.take 0) (l.drop 0) from by rw [← hR]; exact vs_start l (by omega))
 clear h hR hn hG h64
 go_enter Tryz.func29, Tryz.ntmps29
 go_wp2_with fail
 go_loopw [11] (fun i wr => ∃ (k : Nat), k ≤ n ∧ i = .int .i64 k ∧ R = vsL (l.take k) (l.drop k) ∧ Below w.heap.size w wr) (fun i _ => n - (RowKit.intOf i).toNat)
 case atStart => exact ⟨0, by omega, rfl, HR.out, bref _⟩
 case round =>
  obtain ⟨k, hk, rfl, hq, hB⟩ := hrel
  have HQ := Lib.hid hq
  have HB := Lib.hid hB
  clear hq hB
  by_cases hlt : k < n
  ·have hkz : (k : Int) < (n : Int) := by omega
   have hk0 : (0 : Int) ≤ (k : Int) := by omega
   have hkc : (k : Int) ≤ (cap : Int) := by omega
   have g1 : k < l.length := by rw [HN.out]; exact hlt
   obtain ⟨b, off, hao, hb, c0, c1⟩ := (HI.out.keep HB.out) k g1
   have B1 := Lib.hid (vs_bad1 l k g1)
   have B2 := Lib.hid (vs_bad2 l k g1)
   have B3 := Lib.hid (vs_bad3 l k g1)
   have B4 := Lib.hid (vs_next l k g1)
   have HF := Lib.hid (fix_neg (l.take k) (l.getD k V0).1)
   have hlk : (l.take k).length = k := by rw [List.length_take]; omega
   have C2 := Lib.hid (fun (x : ByteArray) W (hW : Below wr.heap.size wr W) => mfind (l.take k) x ao cap W (by omega) ((HI.out.keep (btr HB.out hW)).take k))
   rw [hlk] at C2
   subst hao
   obtain ⟨v, hv⟩ : ∃ v, l.getD k V0 = v := ⟨_, rfl⟩
   rw [hv] at c0 c1 B1 B2 B3 B4 HF
   obtain ⟨s, t⟩ := v
   simp only at c0 c1 B1 B2 B3 B4 HF
   obtain ⟨X, hX⟩ : ∃ X, str s = X := ⟨_, rfl⟩
   have hXs : byt X = s := by rw [← hX, byt_str]
   rw [hX] at c0
   have C1 := Lib.hid (fun W (hW : Below wr.heap.size wr W) => mvalid_var X W (HG.out.keep (btr HB.out hW)))
   rw [hXs] at C1
   have C3 := Lib.hid (fun W (hW : Below wr.heap.size wr W) => C2.out X W hW)
   rw [hXs] at C3
   clear C2
   obtain ⟨f, hf⟩ : ∃ f, fixI (l.take k) s = f := ⟨_, rfl⟩
   rw [hf] at C3 HF
   have C4 := Lib.hid (fun W => mexists t W)
   have HBX := Lib.hid (show Below wr.heap.size wr (wr.alloc (.cells #[.string X, .int .i64 t] 57)) from bal (bref wr) _)
   clear hv hX hXs hf g1 hlk
   cases hvo : varOk s with
   | false =>
    rw [hvo] at C1 B1
    simp only [Bool.false_eq_true, if_false] at C1
    have hr : Hid (R = 4) := Lib.hid (HQ.out.trans (B1.out rfl))
    clear hvo
    go_wp2_with (go_at_call 47; refine (C1.out _ (by repeat (first | exact bref _ | refine bdr ?_ | refine bal ?_ _))).mono ?_; rintro r w2 ⟨rfl, hb2⟩)
    go_ret
    exact ⟨by rw [hr.out]; rfl, btr HB.out (btr (by repeat (first | exact bref _ | refine bdr ?_ | refine bal ?_ _)) hb2)⟩
   | true =>
    rw [hvo] at C1 B2 B3 B4
    simp only [if_true] at C1
    clear hvo B1
    go_wp2_with fail
    refine (C1.out _ HBX.out).mono ?_
    rintro r w2 ⟨rfl, hb2⟩
    have hbx : Below (wr.heap.size + 1) (wr.alloc (.cells #[.string X, .int .i64 t] 57)) w2 := by have := hb2; simpa using this
    have d0 : w2.cell? ⟨wr.heap.size, 0, none⟩ = some (.string X) := (hbx.cell (p := ⟨wr.heap.size, 0, none⟩) (Nat.lt_succ_self _)).trans (by simp [go_sem])
    have d1 : w2.cell? ⟨wr.heap.size, 1, none⟩ = some (.int .i64 t) := (hbx.cell (p := ⟨wr.heap.size, 1, none⟩) (Nat.lt_succ_self _)).trans (by simp [go_sem])
    have hbw := btr HBX.out hb2
    have HBW := Lib.hid hbw
    have C3b := Lib.hid (fun W (hW : Below w2.heap.size w2 W) => C3.out W (btr HBW.out hW))
    clear hb2 hbx hbw c0 c1 C1
    by_cases hf0 : 0 ≤ f
    ·have hr : Hid (R = 12) := Lib.hid (HQ.out.trans (B2.out (by trivial) (by
      cases hc : ((l.take k).map Prod.fst).contains s with
      | true => rfl
      | false => have := HF.out.1.2 hc; omega)))
     clear B2 B3 B4 C3
     go_wp2_with fail
     refine wp_region_held_drew (S := (fun W => Below w2.heap.size w2 W)) (by kernel_rfl) (bdr (bref _)) (fun hH0 => ?_)
     refine wpAnyH_take (i := 0) (oi := _) (v := ?_) rfl (by kernel_rfl) (by kernel_rfl) (by kernel_rfl) (fun _ _ _ h => h) (Or.inl ⟨?_, ?_⟩) hH0 ?_
     rotate_left
     ·kernel_rfl
     ·(intro W' _; go_simp; (try with_reducible rfl))
     (try simp only [List.getElem_toArray, List.getElem_cons_zero, Act.put, List.setIfInBounds_toArray, List.set_cons_succ, List.set_cons_zero])
     refine wpAnyH_take (i := 1) (oi := _) (v := ?_) rfl (by kernel_rfl) (by kernel_rfl) (by kernel_rfl) (fun _ _ _ h => h) (Or.inl ⟨?_, ?_⟩) hH0 ?_
     rotate_left
     ·kernel_rfl
     ·(intro W' _; go_simp; (try with_reducible rfl))
     (try simp only [List.getElem_toArray, List.getElem_cons_succ, List.getElem_cons_zero, Act.put, List.setIfInBounds_toArray, List.set_cons_succ, List.set_cons_zero])
     refine wpAnyH_take (i := 2) (oi := _) (v := ?_) rfl (by kernel_rfl) (by kernel_rfl) (by kernel_rfl) (fun _ _ _ h => h) (Or.inl ⟨?_, ?_⟩) hH0 ?_
     rotate_left
     ·kernel_rfl
     ·(intro W' _; go_simp; (try with_reducible rfl))
     (try simp only [List.getElem_toArray, List.getElem_cons_succ, List.getElem_cons_zero, Act.put, List.setIfInBounds_toArray, List.set_cons_succ, List.set_cons_zero])
     refine wpAnyH_take (i := 3) (oi := _) (v := ?_) rfl (by kernel_rfl) (by kernel_rfl) (by kernel_rfl) (fun _ _ _ h => h) (Or.inl ⟨?_, ?_⟩) hH0 ?_
     rotate_left
     ·kernel_rfl
     ·(intro W' _; go_simp; (try with_reducible rfl))
     (try simp only [List.getElem_toArray, List.getElem_cons_succ, List.getElem_cons_zero, Act.put, List.setIfInBounds_toArray, List.set_cons_succ, List.set_cons_zero])
     refine wpAnyH_take (i := 4) (oi := _) (v := ?_) rfl (by kernel_rfl) (by kernel_rfl) (by kernel_rfl) (fun _ _ _ h => h) (Or.inl ⟨?_, ?_⟩) hH0 ?_
     rotate_left
     ·kernel_rfl
     ·(intro W' hSw; have f0 := keepc hSw d0; go_simp; (try with_reducible rfl))
     (try simp only [List.getElem_toArray, List.getElem_cons_succ, List.getElem_cons_zero, Act.put, List.setIfInBounds_toArray, List.set_cons_succ, List.set_cons_zero])
     refine wpAnyH_ready (rs := [5]) (by kernel_rfl) (by simp) ?_
     refine AllReadyH.cons (o := _) rfl (fun K hK => ?_) AllReadyH.nil
     go_simp
     refine (C3b.out _ hH0).mono ?_
     rintro r w3 ⟨rfl, hb3⟩
     refine hK.out _ _ (btr hH0 hb3) (fun hH1 => ?_)
     clear hK K
     (try simp only [List.getElem_toArray, List.getElem_cons_succ, List.getElem_cons_zero, Act.put, List.setIfInBounds_toArray, List.set_cons_succ, List.set_cons_zero])
     refine wpAnyH_take (i := 6) (oi := _) (v := ?_) rfl (by kernel_rfl) (by kernel_rfl) (by kernel_rfl) (fun _ _ _ h => h) (Or.inl ⟨?_, ?_⟩) hH1 ?_
     rotate_left
     ·kernel_rfl
     ·(intro W' _; go_simp; (try with_reducible rfl))
     (try simp only [List.getElem_toArray, List.getElem_cons_succ, List.getElem_cons_zero, Act.put, List.setIfInBounds_toArray, List.set_cons_succ, List.set_cons_zero])
     refine wpAnyH_done (by kernel_rfl) ?_ _
     go_wp2_with fail
     go_ret
     exact ⟨by rw [hr.out]; rfl, btr HB.out (btr HBW.out hH1)⟩
    ·have hfz : ¬ (0 ≤ f) := hf0
     have hnc : ((l.take k).map Prod.fst).contains s = false := HF.out.1.1 (by omega)
     have HNC := Lib.hid hnc
     clear hnc B2 C3
     go_wp2_with fail
     refine wp_region_held_drew (S := (fun W => Below w2.heap.size w2 W)) (by kernel_rfl) (bdr (bref _)) (fun hH0 => ?_)
     refine wpAnyH_take (i := 0) (oi := _) (v := ?_) rfl (by kernel_rfl) (by kernel_rfl) (by kernel_rfl) (fun _ _ _ h => h) (Or.inl ⟨?_, ?_⟩) hH0 ?_
     rotate_left
     ·kernel_rfl
     ·(intro W' _; go_simp; (try with_reducible rfl))
     (try simp only [List.getElem_toArray, List.getElem_cons_zero, Act.put, List.setIfInBounds_toArray, List.set_cons_succ, List.set_cons_zero])
     refine wpAnyH_take (i := 1) (oi := _) (v := ?_) rfl (by kernel_rfl) (by kernel_rfl) (by kernel_rfl) (fun _ _ _ h => h) (Or.inl ⟨?_, ?_⟩) hH0 ?_
     rotate_left
     ·kernel_rfl
     ·(intro W' _; go_simp; (try with_reducible rfl))
     (try simp only [List.getElem_toArray, List.getElem_cons_succ, List.getElem_cons_zero, Act.put, List.setIfInBounds_toArray, List.set_cons_succ, List.set_cons_zero])
     refine wpAnyH_take (i := 2) (oi := _) (v := ?_) rfl (by kernel_rfl) (by kernel_rfl) (by kernel_rfl) (fun _ _ _ h => h) (Or.inl ⟨?_, ?_⟩) hH0 ?_
     rotate_left
     ·kernel_rfl
     ·(intro W' _; go_simp; (try with_reducible rfl))
     (try simp only [List.getElem_toArray, List.getElem_cons_succ, List.getElem_cons_zero, Act.put, List.setIfInBounds_toArray, List.set_cons_succ, List.set_cons_zero])
     refine wpAnyH_take (i := 3) (oi := _) (v := ?_) rfl (by kernel_rfl) (by kernel_rfl) (by kernel_rfl) (fun _ _ _ h => h) (Or.inl ⟨?_, ?_⟩) hH0 ?_
     rotate_left
     ·kernel_rfl
     ·(intro W' _; go_simp; (try with_reducible rfl))
     (try simp only [List.getElem_toArray, List.getElem_cons_succ, List.getElem_cons_zero, Act.put, List.setIfInBounds_toArray, List.set_cons_succ, List.set_cons_zero])
     refine wpAnyH_take (i := 4) (oi := _) (v := ?_) rfl (by kernel_rfl) (by kernel_rfl) (by kernel_rfl) (fun _ _ _ h => h) (Or.inl ⟨?_, ?_⟩) hH0 ?_
     rotate_left
     ·kernel_rfl
     ·(intro W' hSw; have f0 := keepc hSw d0; go_simp; (try with_reducible rfl))
     (try simp only [List.getElem_toArray, List.getElem_cons_succ, List.getElem_cons_zero, Act.put, List.setIfInBounds_toArray, List.set_cons_succ, List.set_cons_zero])
     refine wpAnyH_ready (rs := [5]) (by kernel_rfl) (by simp) ?_
     refine AllReadyH.cons (o := _) rfl (fun K hK => ?_) AllReadyH.nil
     go_simp
     refine (C3b.out _ hH0).mono ?_
     rintro r w3 ⟨rfl, hb3⟩
     refine hK.out _ _ (btr hH0 hb3) (fun hH1 => ?_)
     clear hK K
     (try simp only [List.getElem_toArray, List.getElem_cons_succ, List.getElem_cons_zero, Act.put, List.setIfInBounds_toArray, List.set_cons_succ, List.set_cons_zero])
     refine wpAnyH_take (i := 6) (oi := _) (v := ?_) rfl (by kernel_rfl) (by kernel_rfl) (by kernel_rfl) (fun _ _ _ h => h) (Or.inl ⟨?_, ?_⟩) hH1 ?_
     rotate_left
     ·kernel_rfl
     ·(intro W' _; go_simp; (try with_reducible rfl))
     (try simp only [List.getElem_toArray, List.getElem_cons_succ, List.getElem_cons_zero, Act.put, List.setIfInBounds_toArray, List.set_cons_succ, List.set_cons_zero])
     refine wpAnyH_done (by kernel_rfl) ?_ _
     cases hg : good t with
     | false =>
      have hr : Hid (R = 3) := Lib.hid (HQ.out.trans (B3.out (by trivial) HNC.out hg))
      rw [hg] at C4
      have e1 := keepc hH1 d1
      clear hg B3 B4
      go_wp2_with (go_at_call 49; refine (C4.out _).mono ?_; rintro r4 w4 ⟨rfl, hb4⟩)
      go_ret
      exact ⟨by rw [hr.out]; rfl, btr HB.out (btr HBW.out (btr hH1 hb4))⟩
     | true =>
      have HR2 := Lib.hid (HQ.out.trans (B4.out (by trivial) HNC.out hg))
      rw [hg] at C4
      have e1 := keepc hH1 d1
      have HH9 := Lib.hid hH1
      clear hg B3 B4
      go_wp2_with (go_at_call 49; refine (C4.out _).mono ?_; rintro r4 w4 ⟨rfl, hb4⟩)
      go_roundw
      case rel => exact ⟨k + 1, by omega, by go_num, HR2.out, btr HB.out (btr HBW.out (btr HH9.out hb4))⟩
      case measure => simp [RowKit.intOf]; omega
  ·have he : k = n := by omega
   subst he
   have hr : Hid (R = 0) := Lib.hid (HQ.out.trans (vs_end l k (by rw [HN.out]; exact Nat.le_refl _)))
   go_wp2_with fail
   go_ret
   exact ⟨by rw [hr.out]; rfl, HB.out⟩

set_option maxRecDepth 100000 in
set_option maxHeartbeats 4000000 in
theorem rVars (l : List Vr) (ao : Option Addr) (cap : Nat) (w : World) (h : VarsAt ao l w) :
  Calls Tryz.prog 24 #[.slice ao l.length cap] w fun r w' => r = .returned (.int .i64 (vsE l)) ∧ Below w.heap.size w w' := by
 obtain ⟨n, hn⟩ : ∃ n, l.length = n := ⟨_, rfl⟩
 obtain ⟨R, hR⟩ : ∃ R, vsE l = R := ⟨_, rfl⟩
 have HI := Lib.hid h
 have HN := Lib.hid hn
 rw [hn, hR]
 by_cases h64 : 64 < n
 ·have hz : (64 : Int) < (n : Int) := by omega
  have hr : R = 5 := by rw [← hR]; unfold vsE; rw [hn, if_pos h64]
  subst hr
  clear h hR hn h64
  go_enter Tryz.func24, Tryz.ntmps24
  go_wp2_with fail
  go_ret
  exact ⟨rfl, by repeat (first | exact bref _ | refine bdr ?_ | refine bal ?_ _)⟩
 have hz : ¬ (64 : Int) < (n : Int) := by omega
 have hn64 : n ≤ 64 := by omega
 have HR := Lib.hid (show R = vsL (l.take 0) (l.drop 0) from by rw [← hR]; exact vs_start l (by omega))
 clear h hR hn h64
 go_enter Tryz.func24, Tryz.ntmps24
 go_wp2_with fail
 go_loopw [3] (fun i wr => ∃ (k : Nat), k ≤ n ∧ i = .int .i64 k ∧ R = vsL (l.take k) (l.drop k) ∧ Below w.heap.size w wr) (fun i _ => n - (RowKit.intOf i).toNat)
 case atStart => exact ⟨0, by omega, rfl, HR.out, bref _⟩
 case round =>
  obtain ⟨k, hk, rfl, hq, hB⟩ := hrel
  have HQ := Lib.hid hq
  have HB := Lib.hid hB
  clear hq hB
  by_cases hlt : k < n
  ·have hkz : (k : Int) < (n : Int) := by omega
   have g1 : k < l.length := by rw [HN.out]; exact hlt
   obtain ⟨b, off, hao, hb, c0, c1⟩ := (HI.out.keep HB.out) k g1
   have B1 := Lib.hid (vs_bad1 l k g1)
   have B2 := Lib.hid (vs_bad2 l k g1)
   have B3 := Lib.hid (vs_bad3 l k g1)
   have B4 := Lib.hid (vs_next l k g1)
   have hlk : (l.take k).length = k := by rw [List.length_take]; omega
   have HC := Lib.hid (contains_iff (l.take k) (l.getD k V0).1)
   have HV2 := Lib.hid (fun W (hW : Below wr.heap.size wr W) => HI.out.keep (btr HB.out hW))
   subst hao
   obtain ⟨v, hv⟩ : ∃ v, l.getD k V0 = v := ⟨_, rfl⟩
   rw [hv] at c0 c1 B1 B2 B3 B4 HC
   rw [hlk] at HC
   obtain ⟨s, t⟩ := v
   simp only at c0 c1 B1 B2 B3 B4 HC
   have C1 := Lib.hid (fun W => rvariable (str s) W)
   rw [byt_str] at C1
   have C4 := Lib.hid (fun W => rgood t W)
   obtain ⟨X, hX⟩ : ∃ X, str s = X := ⟨_, rfl⟩
   rw [hX] at c0 C1
   have HX := Lib.hid hX
   clear hv hX g1 hlk
   cases hvo : varOk s with
   | false =>
    rw [hvo] at C1 B1
    have hr : Hid (R = 4) := Lib.hid (HQ.out.trans (B1.out rfl))
    clear hvo
    go_wp2_with (go_at_call 45; refine (C1.out _).mono ?_; rintro r w2 ⟨rfl, hb2⟩)
    go_ret
    exact ⟨by rw [hr.out]; rfl, btr HB.out hb2⟩
   | true =>
    rw [hvo] at C1 B2 B3 B4
    clear hvo B1
    go_wp2_with fail
    refine (C1.out _).mono ?_
    rintro r w2 ⟨rfl, hb2⟩
    have HB2 := Lib.hid hb2
    have g0 := keepc hb2 c0
    have g1 := keepc hb2 c1
    clear hb2 c0 c1 C1
    go_wp2_with fail
    go_loopw [4] (fun i wx => ∃ (j : Nat), j ≤ k ∧ i = .int .i64 j ∧ (∀ m, m < j → (l.getD m V0).1 ≠ s) ∧ Below w2.heap.size w2 wx) (fun i _ => k - (RowKit.intOf i).toNat)
    case atStart => exact ⟨0, by omega, rfl, fun m hm => absurd hm (Nat.not_lt_zero _), bref _⟩
    case round =>
     obtain ⟨j, hj, rfl, hq2, hB3⟩ := hrel
     have HQ2 := Lib.hid hq2
     have HB3 := Lib.hid hB3
     have e0 := keepc hB3 g0
     have e1 := keepc hB3 g1
     clear hq2 hB3
     by_cases hjk : j < k
     ·have hjz : (j : Int) < (k : Int) := by omega
      have hjn : (j : Int) < (n : Int) := by omega
      obtain ⟨b2, off2, hao2, hbj, c0, c1⟩ := (HV2.out _ (btr HB2.out HB3.out)) j (by rw [HN.out]; omega)
      injection hao2 with hao2
      injection hao2 with q1 q2
      subst q1
      subst q2
      have HGT := Lib.hid (getD_take V0 l k j hjk)
      obtain ⟨y, hy⟩ : ∃ y, (l.getD j V0).1 = y := ⟨_, rfl⟩
      have HY := Lib.hid hy
      rw [hy] at c0
      by_cases hys : y = s
      ·have hr : Hid (R = 12) := Lib.hid (HQ.out.trans (B2.out (by trivial) (HC.out.2 ⟨j, hjk, by rw [HGT.out, HY.out, hys]⟩)))
       rw [hys, HX.out] at c0
       clear hy hys B2 B3 B4 c1
       go_wp2_with fail
       refine wp_region_held_drew (S := (fun W => Below wr.heap.size wr W)) (by kernel_rfl) (bdr (bref _)) (fun hH0 => ?_)
       refine wpAnyH_take (i := 0) (oi := _) (v := ?_) rfl (by kernel_rfl) (by kernel_rfl) (by kernel_rfl) (fun _ _ _ h => h) (Or.inl ⟨?_, ?_⟩) hH0 ?_
       rotate_left
       ·kernel_rfl
       ·(intro W' _; go_simp; (try with_reducible rfl))
       (try simp only [List.getElem_toArray, List.getElem_cons_zero, Act.put, List.setIfInBounds_toArray, List.set_cons_succ, List.set_cons_zero])
       refine wpAnyH_take (i := 1) (oi := _) (v := ?_) rfl (by kernel_rfl) (by kernel_rfl) (by kernel_rfl) (fun _ _ _ h => h) (Or.inl ⟨?_, ?_⟩) hH0 ?_
       rotate_left
       ·kernel_rfl
       ·(intro W' _; go_simp; (try with_reducible rfl))
       (try simp only [List.getElem_toArray, List.getElem_cons_succ, List.getElem_cons_zero, Act.put, List.setIfInBounds_toArray, List.set_cons_succ, List.set_cons_zero])
       refine wpAnyH_take (i := 2) (oi := _) (v := ?_) rfl (by kernel_rfl) (by kernel_rfl) (by kernel_rfl) (fun _ _ _ h => h) (Or.inl ⟨?_, ?_⟩) hH0 ?_
       rotate_left
       ·kernel_rfl
       ·(intro W' _; go_simp; (try with_reducible rfl))
       (try simp only [List.getElem_toArray, List.getElem_cons_succ, List.getElem_cons_zero, Act.put, List.setIfInBounds_toArray, List.set_cons_succ, List.set_cons_zero])
       refine wpAnyH_take (i := 3) (oi := _) (v := ?_) rfl (by kernel_rfl) (by kernel_rfl) (by kernel_rfl) (fun _ _ _ h => h) (Or.inl ⟨?_, ?_⟩) hH0 ?_
       rotate_left
       ·kernel_rfl
       ·(intro W' _; go_simp; (try with_reducible rfl))
       (try simp only [List.getElem_toArray, List.getElem_cons_succ, List.getElem_cons_zero, Act.put, List.setIfInBounds_toArray, List.set_cons_succ, List.set_cons_zero])
       refine wpAnyH_take (i := 4) (oi := _) (v := ?_) rfl (by kernel_rfl) (by kernel_rfl) (by kernel_rfl) (fun _ _ _ h => h) (Or.inl ⟨?_, ?_⟩) hH0 ?_
       rotate_left
       ·kernel_rfl
       ·(intro W' hSw; have f0 := keepc hSw c0; have f1 := keepc hSw e0; go_simp; (try with_reducible rfl))
       (try simp only [List.getElem_toArray, List.getElem_cons_succ, List.getElem_cons_zero, Act.put, List.setIfInBounds_toArray, List.set_cons_succ, List.set_cons_zero])
       refine wpAnyH_take (i := 5) (oi := _) (v := ?_) rfl (by kernel_rfl) (by kernel_rfl) (by kernel_rfl) (fun _ _ _ h => h) (Or.inl ⟨?_, ?_⟩) hH0 ?_
       rotate_left
       ·kernel_rfl
       ·(intro W' _; go_simp; (try with_reducible rfl))
       (try simp only [List.getElem_toArray, List.getElem_cons_succ, List.getElem_cons_zero, Act.put, List.setIfInBounds_toArray, List.set_cons_succ, List.set_cons_zero])
       refine wpAnyH_take (i := 6) (oi := _) (v := ?_) rfl (by kernel_rfl) (by kernel_rfl) (by kernel_rfl) (fun _ _ _ h => h) (Or.inl ⟨?_, ?_⟩) hH0 ?_
       rotate_left
       ·kernel_rfl
       ·(intro W' _; go_simp; (try with_reducible rfl))
       (try simp only [List.getElem_toArray, List.getElem_cons_succ, List.getElem_cons_zero, Act.put, List.setIfInBounds_toArray, List.set_cons_succ, List.set_cons_zero])
       refine wpAnyH_take (i := 7) (oi := _) (v := ?_) rfl (by kernel_rfl) (by kernel_rfl) (by kernel_rfl) (fun _ _ _ h => h) (Or.inl ⟨?_, ?_⟩) hH0 ?_
       rotate_left
       ·kernel_rfl
       ·(intro W' _; go_simp; (try with_reducible rfl))
       (try simp only [List.getElem_toArray, List.getElem_cons_succ, List.getElem_cons_zero, Act.put, List.setIfInBounds_toArray, List.set_cons_succ, List.set_cons_zero])
       refine wpAnyH_take (i := 8) (oi := _) (v := ?_) rfl (by kernel_rfl) (by kernel_rfl) (by kernel_rfl) (fun _ _ _ h => h) (Or.inl ⟨?_, ?_⟩) hH0 ?_
       rotate_left
       ·kernel_rfl
       ·(intro W' _; go_simp; (try with_reducible rfl))
       (try simp only [List.getElem_toArray, List.getElem_cons_succ, List.getElem_cons_zero, Act.put, List.setIfInBounds_toArray, List.set_cons_succ, List.set_cons_zero])
       refine wpAnyH_take (i := 9) (oi := _) (v := ?_) rfl (by kernel_rfl) (by kernel_rfl) (by kernel_rfl) (fun _ _ _ h => h) (Or.inl ⟨?_, ?_⟩) hH0 ?_
       rotate_left
       ·kernel_rfl
       ·(intro W' hSw; have f0 := keepc hSw c0; have f1 := keepc hSw e0; go_simp; (try with_reducible rfl))
       (try simp only [List.getElem_toArray, List.getElem_cons_succ, List.getElem_cons_zero, Act.put, List.setIfInBounds_toArray, List.set_cons_succ, List.set_cons_zero])
       refine wpAnyH_take (i := 10) (oi := _) (v := ?_) rfl (by kernel_rfl) (by kernel_rfl) (by kernel_rfl) (fun _ _ _ h => h) (Or.inl ⟨?_, ?_⟩) hH0 ?_
       rotate_left
       ·kernel_rfl
       ·(intro W' _; go_simp; (try with_reducible rfl))
       (try simp only [List.getElem_toArray, List.getElem_cons_succ, List.getElem_cons_zero, Act.put, List.setIfInBounds_toArray, List.set_cons_succ, List.set_cons_zero])
       refine wpAnyH_done (by kernel_rfl) ?_ _
       go_wp2_with fail
       go_ret
       exact ⟨by rw [hr.out]; rfl, btr HB.out (btr HB2.out (btr HB3.out hH0))⟩
      ·have hs1 := str_ne hys
       rw [HX.out] at hs1
       obtain ⟨Y, hY⟩ : ∃ Y, str y = Y := ⟨_, rfl⟩
       rw [hY] at c0 hs1
       have HNX : Hid (∀ m, m < j + 1 → (l.getD m V0).1 ≠ s) := Lib.hid (by
        intro m hm
        by_cases e : m = j
        ·subst e; rw [HY.out]; exact hys
        ·exact HQ2.out m (by omega))
       clear hy hys hY B2 B3 B4 c1
       go_wp2_with fail
       refine wp_region_held_drew (S := (fun W => Below wr.heap.size wr W)) (by kernel_rfl) (bdr (bref _)) (fun hH0 => ?_)
       refine wpAnyH_take (i := 0) (oi := _) (v := ?_) rfl (by kernel_rfl) (by kernel_rfl) (by kernel_rfl) (fun _ _ _ h => h) (Or.inl ⟨?_, ?_⟩) hH0 ?_
       rotate_left
       ·kernel_rfl
       ·(intro W' _; go_simp; (try with_reducible rfl))
       (try simp only [List.getElem_toArray, List.getElem_cons_zero, Act.put, List.setIfInBounds_toArray, List.set_cons_succ, List.set_cons_zero])
       refine wpAnyH_take (i := 1) (oi := _) (v := ?_) rfl (by kernel_rfl) (by kernel_rfl) (by kernel_rfl) (fun _ _ _ h => h) (Or.inl ⟨?_, ?_⟩) hH0 ?_
       rotate_left
       ·kernel_rfl
       ·(intro W' _; go_simp; (try with_reducible rfl))
       (try simp only [List.getElem_toArray, List.getElem_cons_succ, List.getElem_cons_zero, Act.put, List.setIfInBounds_toArray, List.set_cons_succ, List.set_cons_zero])
       refine wpAnyH_take (i := 2) (oi := _) (v := ?_) rfl (by kernel_rfl) (by kernel_rfl) (by kernel_rfl) (fun _ _ _ h => h) (Or.inl ⟨?_, ?_⟩) hH0 ?_
       rotate_left
       ·kernel_rfl
       ·(intro W' _; go_simp; (try with_reducible rfl))
       (try simp only [List.getElem_toArray, List.getElem_cons_succ, List.getElem_cons_zero, Act.put, List.setIfInBounds_toArray, List.set_cons_succ, List.set_cons_zero])
       refine wpAnyH_take (i := 3) (oi := _) (v := ?_) rfl (by kernel_rfl) (by kernel_rfl) (by kernel_rfl) (fun _ _ _ h => h) (Or.inl ⟨?_, ?_⟩) hH0 ?_
       rotate_left
       ·kernel_rfl
       ·(intro W' _; go_simp; (try with_reducible rfl))
       (try simp only [List.getElem_toArray, List.getElem_cons_succ, List.getElem_cons_zero, Act.put, List.setIfInBounds_toArray, List.set_cons_succ, List.set_cons_zero])
       refine wpAnyH_take (i := 4) (oi := _) (v := ?_) rfl (by kernel_rfl) (by kernel_rfl) (by kernel_rfl) (fun _ _ _ h => h) (Or.inl ⟨?_, ?_⟩) hH0 ?_
       rotate_left
       ·kernel_rfl
       ·(intro W' hSw; have f0 := keepc hSw c0; have f1 := keepc hSw e0; go_simp; (try with_reducible rfl))
       (try simp only [List.getElem_toArray, List.getElem_cons_succ, List.getElem_cons_zero, Act.put, List.setIfInBounds_toArray, List.set_cons_succ, List.set_cons_zero])
       refine wpAnyH_take (i := 5) (oi := _) (v := ?_) rfl (by kernel_rfl) (by kernel_rfl) (by kernel_rfl) (fun _ _ _ h => h) (Or.inl ⟨?_, ?_⟩) hH0 ?_
       rotate_left
       ·kernel_rfl
       ·(intro W' _; go_simp; (try with_reducible rfl))
       (try simp only [List.getElem_toArray, List.getElem_cons_succ, List.getElem_cons_zero, Act.put, List.setIfInBounds_toArray, List.set_cons_succ, List.set_cons_zero])
       refine wpAnyH_take (i := 6) (oi := _) (v := ?_) rfl (by kernel_rfl) (by kernel_rfl) (by kernel_rfl) (fun _ _ _ h => h) (Or.inl ⟨?_, ?_⟩) hH0 ?_
       rotate_left
       ·kernel_rfl
       ·(intro W' _; go_simp; (try with_reducible rfl))
       (try simp only [List.getElem_toArray, List.getElem_cons_succ, List.getElem_cons_zero, Act.put, List.setIfInBounds_toArray, List.set_cons_succ, List.set_cons_zero])
       refine wpAnyH_take (i := 7) (oi := _) (v := ?_) rfl (by kernel_rfl) (by kernel_rfl) (by kernel_rfl) (fun _ _ _ h => h) (Or.inl ⟨?_, ?_⟩) hH0 ?_
       rotate_left
       ·kernel_rfl
       ·(intro W' _; go_simp; (try with_reducible rfl))
       (try simp only [List.getElem_toArray, List.getElem_cons_succ, List.getElem_cons_zero, Act.put, List.setIfInBounds_toArray, List.set_cons_succ, List.set_cons_zero])
       refine wpAnyH_take (i := 8) (oi := _) (v := ?_) rfl (by kernel_rfl) (by kernel_rfl) (by kernel_rfl) (fun _ _ _ h => h) (Or.inl ⟨?_, ?_⟩) hH0 ?_
       rotate_left
       ·kernel_rfl
       ·(intro W' _; go_simp; (try with_reducible rfl))
       (try simp only [List.getElem_toArray, List.getElem_cons_succ, List.getElem_cons_zero, Act.put, List.setIfInBounds_toArray, List.set_cons_succ, List.set_cons_zero])
       refine wpAnyH_take (i := 9) (oi := _) (v := ?_) rfl (by kernel_rfl) (by kernel_rfl) (by kernel_rfl) (fun _ _ _ h => h) (Or.inl ⟨?_, ?_⟩) hH0 ?_
       rotate_left
       ·kernel_rfl
       ·(intro W' hSw; have f0 := keepc hSw c0; have f1 := keepc hSw e0; go_simp; (try with_reducible rfl))
       (try simp only [List.getElem_toArray, List.getElem_cons_succ, List.getElem_cons_zero, Act.put, List.setIfInBounds_toArray, List.set_cons_succ, List.set_cons_zero])
       refine wpAnyH_take (i := 10) (oi := _) (v := ?_) rfl (by kernel_rfl) (by kernel_rfl) (by kernel_rfl) (fun _ _ _ h => h) (Or.inl ⟨?_, ?_⟩) hH0 ?_
       rotate_left
       ·kernel_rfl
       ·(intro W' _; go_simp; (try with_reducible rfl))
       (try simp only [List.getElem_toArray, List.getElem_cons_succ, List.getElem_cons_zero, Act.put, List.setIfInBounds_toArray, List.set_cons_succ, List.set_cons_zero])
       refine wpAnyH_done (by kernel_rfl) ?_ _
       go_wp2_with fail
       go_roundw
       case rel => exact ⟨j + 1, by omega, by go_num, HNX.out, btr HB3.out hH0⟩
       case measure => simp [RowKit.intOf]; omega
     ·have he : j = k := by omega
      subst he
      have hjz : ¬ (j : Int) < (j : Int) := by omega
      have hnc : ((l.take j).map Prod.fst).contains s = false := by
       cases hc : ((l.take j).map Prod.fst).contains s with
       | false => rfl
       | true =>
        obtain ⟨m, hm, hms⟩ := HC.out.1 hc
        rw [getD_take V0 l j m hm] at hms
        exact absurd hms (HQ2.out m hm)
      have HNC := Lib.hid hnc
      clear hnc
      cases hg : good t with
      | false =>
       have hr : Hid (R = 3) := Lib.hid (HQ.out.trans (B3.out (by trivial) HNC.out hg))
       rw [hg] at C4
       clear hg B2 B3 B4
       go_wp2_with (go_at_call 46; refine (C4.out _).mono ?_; rintro r4 w4 ⟨rfl, hb4⟩)
       go_ret
       exact ⟨by rw [hr.out]; rfl, btr HB.out (btr HB2.out (btr HB3.out hb4))⟩
      | true =>
       have HR2 := Lib.hid (HQ.out.trans (B4.out (by trivial) HNC.out hg))
       rw [hg] at C4
       clear hg B2 B3 B4
       go_wp2_with (go_at_call 46; refine (C4.out _).mono ?_; rintro r4 w4 ⟨rfl, hb4⟩)
       go_roundw
       case rel => exact ⟨j + 1, by omega, by go_num, HR2.out, btr HB.out (btr HB2.out (btr HB3.out hb4))⟩
       case measure => simp [RowKit.intOf]; omega
  ·have he : k = n := by omega
   subst he
   have hr : Hid (R = 0) := Lib.hid (HQ.out.trans (vs_end l k (by rw [HN.out]; exact Nat.le_refl _)))
   go_wp2_with fail
   go_ret
   exact ⟨by rw [hr.out]; rfl, HB.out⟩
end Go.Proofs.YthanoilbcdhbkaaGreatDoor
