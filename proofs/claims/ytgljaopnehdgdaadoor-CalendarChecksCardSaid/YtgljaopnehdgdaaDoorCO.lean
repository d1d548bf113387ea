/-
  The union of two lists, by package calendar.
-/
import Derived.Test.YtgljaopnehdgdaaDoorCL
namespace Go.Proofs.YtgljaopnehdgdaaDoor
open Go Go.RowKit Go.Lib WM Go.Sort

/-- A list of the call's own that is not empty: its block. -/
theorem own_block {w : World} {base n : Nat} {v : Value} {l : List Int} (h : w.ownsRow base 3 1 v n (vals l)) (hn : 0 < n) :
    ∃ g cap cur, v = .slice (some ⟨g, 0, none⟩) n cap ∧ base ≤ g ∧ w.heap[g]? = some (.cells cur 3 (0, 0)) ∧ n ≤ cap ∧ cap ≤ maxLen ∧ cur.size = cap * 1 ∧ cur.toList.take l.length = l.map (Value.int .i64) ∧ l.length = n := by
  obtain ⟨h0, h1⟩ := h
  have hl : l.length = n := by simpa [vals] using h0
  rcases h1 with ⟨rfl, rfl⟩ | ⟨g, cap, cur, rfl, hb, hg, hnc, hm, hcs, htake⟩
  · omega
  · exact ⟨g, cap, cur, rfl, hb, hg, hnc, hm, hcs, by rw [Nat.mul_one, ← hl] at htake; exact htake, hl⟩
theorem row_below {w : World} {g n : Nat} {os : Array Obj} {cur : Array Value} {e : TypeId} {fr : Nat × Nat} (d : Array Int) {w0 : World} (h : Below w0.heap.size w0 w) (hg : w0.heap.size ≤ g) (_ : w.heap[g]? = some (.cells cur e fr)) :
    Below w0.heap.size w0 (grow (putRow (Value.int .i64) (Sort.ahead w n) g 0 d) os) :=
  h.grown (grownBy_sortedI d) h.size (fun k hk => by cases hk; exact hg)

set_option maxRecDepth 100000 in
set_option maxHeartbeats 4000000 in
theorem munion (ao bo : Option Addr) (ca cb : Nat) (xs ys : List Int) (w : World) (h1 : xs.length ≤ 1000000) (h2 : ys.length ≤ 1000000)
    (hx : IntsAt ao xs w) (hy : IntsAt bo ys w) (nx : ao = none → xs.length = 0 ∧ ca = 0) (ny : bo = none → ys.length = 0 ∧ cb = 0) :
    Calls Tryd.prog 48 #[.slice ao xs.length ca, .slice bo ys.length cb] w fun e w' => ∃ uo uc, e = .returned (.slice uo (normI (xs ++ ys)).length uc) ∧ IntsAt uo (normI (xs ++ ys)) w' ∧ (∀ a, uo = some a → w.heap.size ≤ a.block) ∧ Below w.heap.size w w' := by
  obtain ⟨zs, hzs⟩ : ∃ zs, xs ++ ys = zs := ⟨_, rfl⟩
  have hT : xs.length + ys.length = zs.length := by rw [← hzs, List.length_append]
  have HX := Lib.hid hx
  have HY := Lib.hid hy
  have CC := Lib.hid (fun sb W ht kx ky => concat_any sb ao bo ca cb xs ys W h1 h2 ht kx ky nx ny)
  obtain ⟨T, hTT⟩ : ∃ T, zs.length = T := ⟨_, rfl⟩
  rw [hzs]
  rw [hzs, hT, hTT] at CC
  have HTT := Lib.hid hTT
  have hTb : T ≤ 2000000 := by omega
  have qa := Lib.hid (bal (bref w) (.cells #[.slice ao xs.length ca, .slice bo ys.length cb] 22))
  clear hx hy nx ny hT hzs hTT
  go_enter Tryd.func48, Tryd.ntmps48
  go_wp2_with fail
  refine (CC.out _ _ ⟨by simp [go_sem], by simp [go_sem]⟩ (HX.out.keep qa.out) (HY.out.keep qa.out)).mono ?_
  rintro e w1 ⟨v, rfl, ov, B1⟩
  have B1 := Lib.hid (btr qa.out B1)
  clear CC HX HY qa
  by_cases h0 : T = 0
  · subst h0
    have hz : zs = [] := List.eq_nil_of_length_eq_zero HTT.out
    subst hz
    have CS := Lib.hid (fun p cap W => Tryd.slices_Sort_int_none p cap W)
    have CK := Lib.hid (fun p cap W => Tryd.slices_Compact_int_empty p cap W)
    obtain ⟨_, p, cap, rfl, _, _, hpb⟩ := own_shape ov
    have HPB : Hid (∀ a, p = some a → w.heap.size ≤ a.block) := Lib.hid (fun a h => by
      have := hpb a h
      have := World.size_alloc w (.cells #[.slice ao xs.length ca, .slice bo ys.length cb] 22)
      omega)
    clear ov hpb
    go_wp2_with fail
    refine (CS.out _ _ _).mono ?_
    rintro e w2 ⟨rfl, rfl⟩
    go_wp2_with fail
    refine (CK.out _ _ _).mono ?_
    rintro e w2 ⟨rfl, rfl⟩
    go_wp2_with fail
    go_ret
    have hn : normI [] = [] := by
      have := norm_len []
      exact List.eq_nil_of_length_eq_zero (by simpa using this)
    rw [hn]
    exact ⟨p, cap, rfl, IntsAt.nil _ _, HPB.out, B1.out⟩
  · obtain ⟨g, cap, cur, rfl, hb, hg, hnc, hm, hcs, htk, hl⟩ := own_block ov (by omega)
    have hgl : g < w1.heap.size := (Array.getElem?_eq_some_iff.1 hg).1
    have hbw : w.heap.size ≤ g := by have := World.size_alloc w (.cells #[.slice ao xs.length ca, .slice bo ys.length cb] 22); omega
    have hlen : (zs.mergeSort fun x y => decide (x ≤ y)).length = T := by rw [List.length_mergeSort, hl]
    have CS := Tryd.slices_Sort_int g 0 cap zs w1 (holds_of_blockI hg htk) hgl (by omega)
    rw [hl] at CS
    have CS := Lib.hid CS
    have HW2 : Hid (∀ n os, ∃ cur2, (grow (putRow (Value.int .i64) (Sort.ahead w1 n) g 0 (zs.mergeSort fun x y => decide (x ≤ y)).toArray) os).heap[g]? = some (.cells cur2 3 (0, 0)) ∧ Holds (Value.int .i64) (grow (putRow (Value.int .i64) (Sort.ahead w1 n) g 0 (zs.mergeSort fun x y => decide (x ≤ y)).toArray) os) g 0 (zs.mergeSort fun x y => decide (x ≤ y)).toArray ∧ Below w.heap.size w (grow (putRow (Value.int .i64) (Sort.ahead w1 n) g 0 (zs.mergeSort fun x y => decide (x ≤ y)).toArray) os)) := Lib.hid (fun n os => by
      have a := heap_sortedI (n := n) (os := os) (zs.mergeSort fun x y => decide (x ≤ y)).toArray hg
      exact ⟨_, a, holds_of_blockI a (take_putCellsI cur _ (by rw [hlen]; omega)), row_below _ B1.out hbw hg⟩)
    have HL := Lib.hid hlen
    have HN := Lib.hid hnc
    clear ov htk hcs hb hg hlen
    go_wp2_with fail
    refine (CS.out).mono ?_
    rintro e w2 ⟨rfl, n, os, hw2⟩
    obtain ⟨cur2, hg2, hH2, hB2⟩ := HW2.out n os
    rw [← hw2] at hg2 hH2 hB2
    have CK := Tryd.slices_Compact_int g 0 cap (zs.mergeSort fun x y => decide (x ≤ y)) w2 hH2 (by rw [HL.out]; omega) (by rw [HL.out]; exact HN.out)
    rw [HL.out] at CK
    have CK := Lib.hid CK
    have HH2 := Lib.hid hH2
    have HB2 := Lib.hid hB2
    have HG2 := Lib.hid hg2
    clear hw2 hH2 hB2 HW2 CS hg2
    go_wp2_with fail
    refine (CK.out).mono ?_
    rintro e w3 ⟨rfl, q, hw3⟩
    have hcl : (Lib.compact (zs.mergeSort fun x y => decide (x ≤ y))).length ≤ T := by have := norm_len zs; unfold normI at this; omega
    have hH3 := holds_putRow (Value.int .i64) (Sort.ahead w2 q) g 0 (zs.mergeSort fun x y => decide (x ≤ y)).toArray (Lib.compact (zs.mergeSort fun x y => decide (x ≤ y)) ++ List.replicate (T - (Lib.compact (zs.mergeSort fun x y => decide (x ≤ y))).length) 0).toArray (holds_ahead _ _ _ _ _ _ HH2.out) (by simp only [List.size_toArray, List.length_append, List.length_replicate, HL.out]; omega)
    have B3 : Below w.heap.size w w3 := by
      have := row_below (n := q) (os := #[]) (Lib.compact (zs.mergeSort fun x y => decide (x ≤ y)) ++ List.replicate (T - (Lib.compact (zs.mergeSort fun x y => decide (x ≤ y))).length) 0).toArray HB2.out hbw HG2.out
      rw [grow_empty] at this
      rw [hw3]; exact this
    have H3 := Lib.hid B3
    have HI : Hid (IntsAt (some ⟨g, 0, none⟩) (normI zs) w3) := Lib.hid (by
      intro i hi
      unfold normI at hi ⊢
      refine ⟨g, 0, rfl, ?_, ?_⟩
      · have := (Array.getElem?_eq_some_iff.1 HG2.out).1
        rw [hw3]
        simpa using this
      · rw [hw3, (hH3 i (by simp; omega)).1]
        congr 2
        rw [getElem!_pos _ i (by simp; omega)]
        simp [hi, List.getD])
    clear hw3 hH3 B3 CK hcl
    go_wp2_with fail
    go_ret
    exact ⟨_, _, rfl, HI.out, (fun a h => by cases h; exact hbw), H3.out⟩
end Go.Proofs.YtgljaopnehdgdaaDoor
