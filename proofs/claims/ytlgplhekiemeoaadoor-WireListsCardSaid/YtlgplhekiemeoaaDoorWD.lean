/-
  Lists of texts and of numbers in memory: the document's own Size, SameTexts, SameInts.
-/
import Derived.Test.YtlgplhekiemeoaaDoorWC
import Derived.Test.YtlgplhekiemeoaaDoorWP
namespace Go.Proofs.YtlgplhekiemeoaaDoor
open Go Go.RowKit Go.Lib WM

def IntsAt (ao : Option Addr) (zs : List Int) (w : World) : Prop := ∀ i, i < zs.length → ∃ b off, ao = some ⟨b, off, none⟩ ∧ b < w.heap.size ∧ w.cell? ⟨b, off + i, none⟩ = some (.int .i64 (zs.getD i 0))
theorem IntsAt.keep {ao : Option Addr} {zs : List Int} {w w' : World} (h : IntsAt ao zs w) (hb : Below w.heap.size w w') : IntsAt ao zs w' := by
  intro i hi
  obtain ⟨b, off, e, hbw, c⟩ := h i hi
  exact ⟨b, off, e, by have := hb.size; omega, (hb.cell (p := ⟨b, off + i, none⟩) hbw).trans c⟩
theorem IntsAt.nil (ao : Option Addr) (w : World) : IntsAt ao [] w := fun _ hi => absurd hi (Nat.not_lt_zero _)
def E0 : ByteArray := ⟨#[]⟩
def TextsAt (ao : Option Addr) (zs : List ByteArray) (w : World) : Prop := ∀ i, i < zs.length → ∃ b off, ao = some ⟨b, off, none⟩ ∧ b < w.heap.size ∧ w.cell? ⟨b, off + i, none⟩ = some (.string (zs.getD i E0))
theorem TextsAt.keep {ao : Option Addr} {zs : List ByteArray} {w w' : World} (h : TextsAt ao zs w) (hb : Below w.heap.size w w') : TextsAt ao zs w' := by
  intro i hi
  obtain ⟨b, off, e, hbw, c⟩ := h i hi
  exact ⟨b, off, e, by have := hb.size; omega, (hb.cell (p := ⟨b, off + i, none⟩) hbw).trans c⟩
theorem TextsAt.nil (ao : Option Addr) (w : World) : TextsAt ao [] w := fun _ hi => absurd hi (Nat.not_lt_zero _)
theorem take_g {α : Type} (d : α) (l : List α) (k : Nat) (h : k < l.length) : l.take (k + 1) = l.take k ++ [l.getD k d] := by
  rw [List.take_succ_eq_append_getElem h]; simp [List.getD, h]
theorem drop_g {α : Type} (d : α) (l : List α) (k : Nat) (h : k < l.length) : l.drop k = l.getD k d :: l.drop (k + 1) := by
  rw [List.drop_eq_getElem_cons h]
  simp [List.getD, h]
theorem getD_mem' {α : Type} (d : α) (l : List α) (k : Nat) (h : k < l.length) : l.getD k d ∈ l := by
  simp [List.getD, h]
theorem take_ne {α : Type} (d : α) (l m : List α) (k : Nat) (hne : l.getD k d ≠ m.getD k d) : l ≠ m := by
  intro e; subst e; exact hne rfl

set_option maxRecDepth 100000 in
set_option maxHeartbeats 1000000 in
theorem rsize (ao : Option Addr) (l : List ByteArray) (c : Nat) (hl : l.length ≤ 10000) (hs : ∀ x ∈ l, x.size ≤ 281474976710656) (w : World) (h : TextsAt ao l w) :
    Calls Tryd.prog 9 #[.slice ao l.length c] w fun e w' => e = .returned (.int .i64 (sizeL l : Nat)) ∧ w = w' := by
  have HS := Lib.hid hs
  have HT := Lib.hid h
  obtain ⟨n, hn⟩ : ∃ n, l.length = n := ⟨_, rfl⟩
  have HN := Lib.hid hn
  rw [hn] at hl ⊢
  clear hs h hn
  go_enter Tryd.func9, Tryd.ntmps9
  go_wp2_with fail
  go_loop [3, 4] (fun s i => ∃ (k : Nat) (S : Nat), k ≤ n ∧ i = .int .i64 k ∧ s = .int .i64 S ∧ S = n + ((l.take k).map ByteArray.size).sum ∧ S ≤ 10000 + k * 281474976710656) (fun _ i => n - (RowKit.intOf i).toNat)
  case atStart => exact ⟨0, n, by omega, rfl, rfl, by simp, by omega⟩
  case round =>
    obtain ⟨k, S, hk, rfl, rfl, hS, hS2⟩ := hrel
    have HE := Lib.hid hS
    clear hS
    by_cases hlt : k < n
    · obtain ⟨b, off, rfl, hb, c0⟩ := HT.out k (by rw [HN.out]; exact hlt)
      have hsz := HS.out _ (getD_mem' E0 l k (by rw [HN.out]; exact hlt))
      have ht := take_g E0 l k (by rw [HN.out]; exact hlt)
      obtain ⟨x, hx⟩ : ∃ x, l.getD k E0 = x := ⟨_, rfl⟩
      rw [hx] at c0 hsz ht
      obtain ⟨q, hq⟩ : ∃ q, S + x.size = q := ⟨_, rfl⟩
      have hw : wrap64 ((S : Int) + (x.size : Int)) = (q : Int) := by unfold wrap64; omega
      have hkz : (k : Int) < (n : Int) := by omega
      have HQ : Hid (q = n + ((l.take (k + 1)).map ByteArray.size).sum ∧ q ≤ 10000 + (k + 1) * 281474976710656) := Lib.hid ⟨by have h1 := HE.out; rw [ht, ← hq, List.map_append, List.sum_append, List.map_singleton, List.sum_singleton]; omega, by omega⟩
      have HH := Lib.hid hq
      clear hx ht hq
      go_wp2_with fail
      go_round
      case rel => exact ⟨k + 1, q, by omega, by go_num, by have := HH.out; first | rfl | go_num, HQ.out.1, HQ.out.2⟩
      case measure => simp [RowKit.intOf]; omega
    · have he : k = n := by omega
      subst he
      have HR : Hid (sizeL l = S) := Lib.hid (by rw [HE.out]; unfold sizeL; rw [List.take_of_length_le (by rw [HN.out]; exact Nat.le_refl _), HN.out])
      go_wp2_with fail
      go_ret
      exact ⟨by rw [HR.out]; rfl, rfl⟩

set_option maxRecDepth 100000 in
set_option maxHeartbeats 2000000 in
theorem rsameI (ao bo : Option Addr) (xs ys : List Int) (ca cb : Nat) (hx : xs.length ≤ 1000000) (hy : ys.length ≤ 1000000) (w : World) (h : IntsAt ao xs w) (h2 : IntsAt bo ys w) :
    Calls Tryd.prog 24 #[.slice ao xs.length ca, .slice bo ys.length cb] w fun e w' => e = .returned (.bool (decide (xs = ys))) ∧ Below w.heap.size w w' := by
  have HA := Lib.hid h
  have HB := Lib.hid h2
  obtain ⟨n, hn⟩ : ∃ n, xs.length = n := ⟨_, rfl⟩
  obtain ⟨m, hm⟩ : ∃ m, ys.length = m := ⟨_, rfl⟩
  have HN := Lib.hid hn
  have HM := Lib.hid hm
  rw [hn] at hx ⊢
  rw [hm] at hy ⊢
  clear h h2 hn hm
  by_cases hnm : n = m
  · subst hnm
    go_enter Tryd.func24, Tryd.ntmps24
    go_wp2_with fail
    go_loopw [5] (fun i wr => ∃ (k z : Nat), k ≤ n ∧ i = .int .i64 k ∧ xs.take k = ys.take k ∧ wr = w.drewN z) (fun i _ => n - (RowKit.intOf i).toNat)
    case atStart => exact ⟨0, 0, by omega, rfl, rfl, rfl⟩
    case round =>
      obtain ⟨k, z, hk, rfl, hE, rfl⟩ := hrel
      have HE := Lib.hid hE
      clear hE
      by_cases hlt : k < n
      · obtain ⟨b, off, rfl, hb, c0⟩ := HA.out k (by rw [HN.out]; exact hlt)
        obtain ⟨b2, off2, rfl, hb2, c2⟩ := HB.out k (by rw [HM.out]; exact hlt)
        have ht := take_g (0 : Int) xs k (by rw [HN.out]; exact hlt)
        have ht2 := take_g (0 : Int) ys k (by rw [HM.out]; exact hlt)
        have hne := take_ne (0 : Int) xs ys k
        obtain ⟨x, hx⟩ : ∃ x, xs.getD k (0 : Int) = x := ⟨_, rfl⟩
        obtain ⟨y, hy⟩ : ∃ y, ys.getD k (0 : Int) = y := ⟨_, rfl⟩
        rw [hx] at c0 ht hne
        rw [hy] at c2 ht2 hne
        have hkz : (k : Int) < (n : Int) := by omega
        by_cases hq : x = y
        · subst hq
          have HQ : Hid (xs.take (k + 1) = ys.take (k + 1)) := Lib.hid (by rw [ht, ht2, HE.out])
          clear hx hy ht ht2 hne
          go_wp2_with fail
          go_quiet (fail)
          go_wp2_with fail
          go_roundw
          case rel => exact ⟨k + 1, _, by omega, by go_num, HQ.out, by first | rfl | exact World.drewN_drewN _ _ _⟩
          case measure => simp [RowKit.intOf]; omega
        · have HR : Hid (decide (xs = ys) = false) := Lib.hid (by rw [decide_eq_false_iff_not]; exact hne hq)
          have hqb : (x != y) = true := by rw [bne_iff_ne]; exact hq
          clear hx hy ht ht2 hne
          go_wp2_with fail
          go_quiet (fail)
          go_wp2_with fail
          go_ret
          exact ⟨by rw [HR.out]; rfl, by first | exact bdn (bref _) _ | exact bdn (bdn (bref _) _) _⟩
      · have he : k = n := by omega
        subst he
        have HR : Hid (decide (xs = ys) = true) := Lib.hid (by
          rw [decide_eq_true_eq]
          have := HE.out
          rwa [List.take_of_length_le (by rw [HN.out]; exact Nat.le_refl _), List.take_of_length_le (by rw [HM.out]; exact Nat.le_refl _)] at this)
        go_wp2_with fail
        go_ret
        exact ⟨by rw [HR.out]; rfl, bdn (bref _) _⟩
  · have HR : Hid (decide (xs = ys) = false) := Lib.hid (by
      rw [decide_eq_false_iff_not]; intro e; exact hnm (by rw [← HN.out, ← HM.out, e]))
    have hz : ¬ (n : Int) = (m : Int) := by omega
    have hz2 : ((n : Int) != (m : Int)) = true := by rw [bne_iff_ne]; exact hz
    clear hnm
    go_enter Tryd.func24, Tryd.ntmps24
    go_wp2_with fail
    go_ret
    exact ⟨by rw [HR.out]; rfl, bref _⟩

set_option maxRecDepth 100000 in
set_option maxHeartbeats 2000000 in
theorem rsameT (ao bo : Option Addr) (xs ys : List ByteArray) (ca cb : Nat) (hx : xs.length ≤ 1000000) (hy : ys.length ≤ 1000000) (w : World) (h : TextsAt ao xs w) (h2 : TextsAt bo ys w) :
    Calls Tryd.prog 15 #[.slice ao xs.length ca, .slice bo ys.length cb] w fun e w' => e = .returned (.bool (decide (xs = ys))) ∧ Below w.heap.size w w' := by
  have HA := Lib.hid h
  have HB := Lib.hid h2
  obtain ⟨n, hn⟩ : ∃ n, xs.length = n := ⟨_, rfl⟩
  obtain ⟨m, hm⟩ : ∃ m, ys.length = m := ⟨_, rfl⟩
  have HN := Lib.hid hn
  have HM := Lib.hid hm
  rw [hn] at hx ⊢
  rw [hm] at hy ⊢
  clear h h2 hn hm
  by_cases hnm : n = m
  · subst hnm
    go_enter Tryd.func15, Tryd.ntmps15
    go_wp2_with fail
    go_loopw [5] (fun i wr => ∃ (k z : Nat), k ≤ n ∧ i = .int .i64 k ∧ xs.take k = ys.take k ∧ wr = w.drewN z) (fun i _ => n - (RowKit.intOf i).toNat)
    case atStart => exact ⟨0, 0, by omega, rfl, rfl, rfl⟩
    case round =>
      obtain ⟨k, z, hk, rfl, hE, rfl⟩ := hrel
      have HE := Lib.hid hE
      clear hE
      by_cases hlt : k < n
      · obtain ⟨b, off, rfl, hb, c0⟩ := HA.out k (by rw [HN.out]; exact hlt)
        obtain ⟨b2, off2, rfl, hb2, c2⟩ := HB.out k (by rw [HM.out]; exact hlt)
        have ht := take_g E0 xs k (by rw [HN.out]; exact hlt)
        have ht2 := take_g E0 ys k (by rw [HM.out]; exact hlt)
        have hne := take_ne E0 xs ys k
        obtain ⟨x, hx⟩ : ∃ x, xs.getD k E0 = x := ⟨_, rfl⟩
        obtain ⟨y, hy⟩ : ∃ y, ys.getD k E0 = y := ⟨_, rfl⟩
        rw [hx] at c0 ht hne
        rw [hy] at c2 ht2 hne
        have hkz : (k : Int) < (n : Int) := by omega
        by_cases hq : x = y
        · subst hq
          have HQ : Hid (xs.take (k + 1) = ys.take (k + 1)) := Lib.hid (by rw [ht, ht2, HE.out])
          clear hx hy ht ht2 hne
          go_wp2_with fail
          go_quiet (fail)
          go_wp2_with fail
          go_roundw
          case rel => exact ⟨k + 1, _, by omega, by go_num, HQ.out, by first | rfl | exact World.drewN_drewN _ _ _⟩
          case measure => simp [RowKit.intOf]; omega
        · have HR : Hid (decide (xs = ys) = false) := Lib.hid (by rw [decide_eq_false_iff_not]; exact hne hq)
          have hqb : (x.toList != y.toList) = true := by rw [bne_iff_ne, Lib.toList_data, Lib.toList_data]; exact fun e => hq (ByteArray.ext (Array.toList_inj.1 e))
          have hqd : (x.toList == y.toList) = false := by rw [beq_eq_false_iff_ne, Lib.toList_data, Lib.toList_data]; exact fun e => hq (ByteArray.ext (Array.toList_inj.1 e))
          have hqc : ¬ x.toList = y.toList := by rw [Lib.toList_data, Lib.toList_data]; exact fun e => hq (ByteArray.ext (Array.toList_inj.1 e))
          clear hx hy ht ht2 hne
          go_wp2_with fail
          go_quiet (fail)
          go_wp2_with fail
          go_ret
          exact ⟨by rw [HR.out]; rfl, by first | exact bdn (bref _) _ | exact bdn (bdn (bref _) _) _⟩
      · have he : k = n := by omega
        subst he
        have HR : Hid (decide (xs = ys) = true) := Lib.hid (by
          rw [decide_eq_true_eq]
          have := HE.out
          rwa [List.take_of_length_le (by rw [HN.out]; exact Nat.le_refl _), List.take_of_length_le (by rw [HM.out]; exact Nat.le_refl _)] at this)
        go_wp2_with fail
        go_ret
        exact ⟨by rw [HR.out]; rfl, bdn (bref _) _⟩
  · have HR : Hid (decide (xs = ys) = false) := Lib.hid (by
      rw [decide_eq_false_iff_not]; intro e; exact hnm (by rw [← HN.out, ← HM.out, e]))
    have hz : ¬ (n : Int) = (m : Int) := by omega
    have hz2 : ((n : Int) != (m : Int)) = true := by rw [bne_iff_ne]; exact hz
    clear hnm
    go_enter Tryd.func15, Tryd.ntmps15
    go_wp2_with fail
    go_ret
    exact ⟨by rw [HR.out]; rfl, bref _⟩
end Go.Proofs.YtlgplhekiemeoaaDoor
