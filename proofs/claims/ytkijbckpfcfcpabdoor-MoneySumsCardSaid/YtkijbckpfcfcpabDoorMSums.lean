/-
  The walk of the law MoneySums.
-/
import Derived.Test.YtkijbckpfcfcpabDoorMLives
import Derived.Maps.AppendAt
import Derived.OwnWalk
namespace Go.Proofs.YtkijbckpfcfcpabDoor
open Go Go.RowKit Go.Lib WM

def vals (l : List Int) : List Value := l.map (Value.int .i64)
theorem info3 : (Tryd.prog.info? 3).map (fun i => (i.zero, i.size, i.bytes)) = some (some (.int .i64 0), 1, 8) := by kernel_rfl
theorem news1 (w : World) (z : Int) : ∀ j u, [Value.int .i64 z][j]? = some u → (w.alloc (.cells #[.int .i64 z] 3)).cell? ((⟨w.heap.size, 0, none⟩ : Addr).add j) = some u := by
  intro j u hj
  match j, hj with
  | 0, hj => simp at hj; subst hj; simp [Addr.add]
theorem one1 (z : Int) : ∀ u ∈ [Value.int .i64 z], u.oneCell' = true := by
  intro u hu; simp at hu; subst hu; rfl
theorem sumI_cons (z : Int) (l : List Int) : sumI (z :: l) = z + sumI l := by
  have key : ∀ (l : List Int) (a : Int), l.foldl (· + ·) a = a + l.foldl (· + ·) 0 := by
    intro l
    induction l with
    | nil => intro a; simp
    | cons x l ih => intro a; rw [List.foldl_cons, List.foldl_cons, ih (a + x), ih (0 + x)]; omega
  unfold sumI
  rw [List.foldl_cons, key]; omega
theorem sumI_rev (l : List Int) : sumI l.reverse = sumI l := by
  induction l with
  | nil => rfl
  | cons x l ih => rw [List.reverse_cons, sumI_snoc, ih, sumI_cons]; omega
theorem sum_rev (l : List Int) : sumV l.reverse = sumV l ∧ sumE l.reverse = sumE l := by
  unfold sumV sumE
  rw [sumI_rev, List.length_reverse, List.all_reverse]
  exact ⟨rfl, rfl⟩
theorem rev_take (l : List Int) (k j : Nat) (hj : j + 1 + k = l.length) : vals (l.reverse.take (k + 1)) = vals (l.reverse.take k) ++ [.int .i64 (l.getD j 0)] := by
  have hk : k < l.reverse.length := by rw [List.length_reverse]; omega
  rw [take_snoc_i l.reverse k hk]
  have : l.reverse.getD k 0 = l.getD j 0 := by
    simp only [List.getD]
    rw [List.getElem?_reverse (by omega), show l.length - 1 - k = j by omega]
  rw [this]
  simp [vals]
theorem own_below {w w' : World} {base : Nat} {e : TypeId} {size : Nat} {v : Value} {n : Nat} {xs : List Value} (h : w.ownsRow base e size v n xs) (hb : Below w.heap.size w w') : w'.ownsRow base e size v n xs := by
  refine ⟨h.1, ?_⟩
  rcases h.2 with hn | ⟨g, cap, cur, rfl, hbg, hg, rest⟩
  · exact Or.inl hn
  · refine Or.inr ⟨g, cap, cur, rfl, hbg, ?_, rest⟩
    rw [hb.block g (Array.getElem?_eq_some_iff.1 hg).1]
    exact hg
theorem own_shape {w : World} {base n : Nat} {v : Value} {l : List Int} (h : w.ownsRow base 3 1 v n (vals l)) :
    l.length = n ∧ ∃ ao cap, v = .slice ao n cap ∧ ∀ i, i < n → ∃ b off, ao = some ⟨b, off, none⟩ ∧ w.cell? ⟨b, off + i, none⟩ = some (.int .i64 (l.getD i 0)) := by
  obtain ⟨h0, h1⟩ := h
  have hl : l.length = n := by simpa [vals] using h0
  refine ⟨hl, ?_⟩
  rcases h1 with ⟨rfl, rfl⟩ | ⟨g, cap, cur, rfl, hb, hg, hnc, _, hcs, htake⟩
  · exact ⟨none, 0, rfl, fun i hi => absurd hi (Nat.not_lt_zero _)⟩
  · refine ⟨some ⟨g, 0, none⟩, cap, rfl, fun j hj => ⟨g, 0, rfl, ?_⟩⟩
    rw [Nat.zero_add, cell_of_row _ _ j cur _ (0, 0) hg]
    have h2 : (cur.toList.take (n * 1))[j]? = (vals l)[j]? := by rw [htake]
    rw [List.getElem?_take, if_pos (by omega)] at h2
    rw [← Array.getElem?_toList, h2]
    simp [vals, List.getD, hl, hj]
/-- The loop that turns the list round, at its k-th head. -/
def TRel (w : World) (zs : List Int) (k : Nat) (x : Value) (wr : World) : Prop := wr.ownsRow w.heap.size 3 1 x k (vals (zs.reverse.take k)) ∧ Below w.heap.size w wr
theorem TRel.step {w wr w4 : World} {zs : List Int} {k j : Nat} {x x' : Value} {o : Obj} (h : TRel w zs k x wr) (hj : j + 1 + k = zs.length)
    (hx : w4.ownsRow w.heap.size 3 1 x' (k + 1) (vals (zs.reverse.take k) ++ [.int .i64 (zs.getD j 0)])) (gx : (wr.alloc o).grownBy w4 x.ownBlock) : TRel w zs (k + 1) x' w4 := by
  refine ⟨by rw [rev_take zs k j hj]; exact hx, ?_⟩
  have s := h.2.size
  exact (bal h.2 o).grown gx (by simp; omega) (fun b hb => (h.1.lt b hb).1)

set_option maxRecDepth 100000 in
set_option maxHeartbeats 8000000 in
theorem sums_any (ao : Option Addr) (cap : Nat) (zs : List Int) (w : World) (ht : Tb w) (hc : ∀ i, i < zs.length → ∃ b off, ao = some ⟨b, off, none⟩ ∧ b < w.heap.size ∧ w.cell? ⟨b, off + i, none⟩ = some (.int .i64 (zs.getD i 0))) :
    Calls Tryd.prog 4 #[.slice ao zs.length cap] w fun e w' => e = .returned (.bool true) ∧ Below w.heap.size w w' := by
  by_cases hbig : 5000 < zs.length
  · have hz : (5000 : Int) < (zs.length : Int) := by omega
    clear hbig hc
    go_enter Tryd.func4, Tryd.ntmps4
    go_wp2_with fail
    refine (lives_any _ ht).mono ?_
    rintro e w1 ⟨rfl, q1⟩
    go_wp2_with fail
    go_ret
    exact ⟨rfl, q1⟩
  · have hz : ¬ (5000 : Int) < (zs.length : Int) := by omega
    have hzl : (zs.length : Int) ≤ 5000 := by omega
    have C1 := fun W hcc => msum ao cap zs W (by omega) hcc
    have C2 := fun W hcc => rsum ao cap zs W (by omega) hcc
    have C3 := fun a c W hcc => msum a c zs.reverse W (by rw [List.length_reverse]; omega) hcc
    obtain ⟨e1, e2⟩ := sum_rev zs
    have hrl : zs.reverse.length = zs.length := List.length_reverse
    rw [e1, e2, hrl] at C3
    obtain ⟨Q, h1⟩ : ∃ x, sumV zs = x := ⟨_, rfl⟩
    obtain ⟨E, h2⟩ : ∃ x, sumE zs = x := ⟨_, rfl⟩
    simp only [h1, h2] at C1 C2 C3
    have C1 := Lib.hid C1; have C2 := Lib.hid C2; have C3 := Lib.hid C3
    have HC := Lib.hid hc
    have hkeep : ∀ W, Below w.heap.size w W → ∀ i, i < zs.length → ∃ b off, ao = some ⟨b, off, none⟩ ∧ W.cell? ⟨b, off + i, none⟩ = some (.int .i64 (zs.getD i 0)) := by
      intro W hb i hi
      obtain ⟨b, off, e, hbw, hcc⟩ := hc i hi
      exact ⟨b, off, e, (hb.cell (p := ⟨b, off + i, none⟩) hbw).trans hcc⟩
    have HK := Lib.hid hkeep
    obtain ⟨i0, hi, hz0, hz1, hz2⟩ := info_parts info3
    have hrt : zs.reverse.take zs.length = zs.reverse := List.take_of_length_le (by rw [List.length_reverse]; omega)
    have HRT := Lib.hid hrt
    clear hbig hc hkeep e1 e2 h1 h2 hrt hrl
    go_enter Tryd.func4, Tryd.ntmps4
    go_wp2_with fail
    go_loopw [3, 4] (fun x i wr => ∃ k : Nat, k ≤ zs.length ∧ i = .int .i64 ((zs.length : Int) - 1 - k) ∧ TRel w zs k x wr) (fun _ i _ => (RowKit.intOf i + 1).toNat)
    case atStart => exact ⟨0, by omega, by simp, World.ownsRow_nil _ _ _ _, bref _⟩
    case round =>
      obtain ⟨k, hk, rfl, hR⟩ := hrel
      have HR := Lib.hid hR
      by_cases hlt : k < zs.length
      · obtain ⟨j, hj⟩ : ∃ j : Nat, (zs.length : Int) - 1 - k = (j : Int) := ⟨zs.length - 1 - k, by omega⟩
        rw [hj]
        have hjl : j < zs.length := by omega
        have HJ := Lib.hid (show j + 1 + k = zs.length by omega)
        obtain ⟨b, off, rfl, hcell⟩ := HK.out wr hR.2 j hjl
        obtain ⟨z, hzz⟩ : ∃ z, zs.getD j 0 = z := ⟨_, rfl⟩
        rw [hzz] at hcell
        have HZZ := Lib.hid hzz
        have sW := hR.2.size
        have hown := hR.1.alloc (.cells #[.int .i64 z] 3)
        have hwj : wrap64 ((j : Int) - 1) = (j : Int) - 1 := by unfold wrap64; omega
        have hj0 : (0 : Int) ≤ (j : Int) := by omega
        have hjz : (j : Int) < (zs.length : Int) := by omega
        clear hR hzz hj
        go_wp2_with (first | (at_builtin; refine wpList_append_own_at _ rfl (.tmp 22) (.tmp 27) 28 rfl w.heap.size 3 i0 (.int .i64 0) 1 8 Tryd.underlying28 hi hz0 hz1 hz2 rfl (by decide) _ _ _ rfl hown ⟨wr.heap.size, 0, none⟩ 1 1 [.int .i64 z] rfl rfl (news1 wr z) (one1 z) (by unfold maxLen; omega) (by omega) (by simp; omega) ?_; intro x' w4 ox gx _ ax))
        go_roundw
        case rel => exact ⟨k + 1, by omega, by have := HJ.out; first | (congr 1; omega) | (congr 1), HR.out.step HJ.out (by rw [HZZ.out]; exact ox) gx⟩
        case measure => simp [RowKit.intOf]
      · have he : k = zs.length := by omega
        subst he
        have hm1 : (zs.length : Int) - 1 - (zs.length : Int) = -1 := by omega
        rw [hm1]
        have hB := hR.2
        have HB := Lib.hid hB
        obtain ⟨_, ab, cb, rfl, hcb⟩ := own_shape (by rw [← HRT.out]; exact hR.1 : wr.ownsRow w.heap.size 3 1 u3 zs.length (vals zs.reverse))
        have HCB := Lib.hid hcb
        clear hR hm1 hcb hB
        go_wp2_with fail
        refine (C1.out _ (HK.out _ HB.out)).mono ?_
        rintro e w1 ⟨rfl, rfl⟩
        go_wp2_with fail
        refine (C2.out _ (HK.out _ HB.out)).mono ?_
        rintro e w1 ⟨rfl, rfl⟩
        go_wp2_with fail
        refine (C3.out _ _ _ (fun i hi => HCB.out i hi)).mono ?_
        rintro e w1 ⟨rfl, rfl⟩
        go_wp2_with fail
        refine (lives_any _ (ht.keep HB.out)).mono ?_
        rintro e w5 ⟨rfl, q5⟩
        have B5 := btr HB.out q5
        go_wp2_with fail
        go_ret
        exact ⟨rfl, B5⟩
end Go.Proofs.YtkijbckpfcfcpabDoor
