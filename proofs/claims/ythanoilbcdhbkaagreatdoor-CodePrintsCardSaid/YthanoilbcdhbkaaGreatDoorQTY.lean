/-
  Tokens: contracts of the document's own digits, Percent, Words, Word.
-/
import Derived.Test.YthanoilbcdhbkaaGreatDoorQTX
namespace Go.Proofs.YthanoilbcdhbkaaGreatDoor
open Go Go.RowKit Go.Lib WM TM

theorem ten_piece (r : Nat) (h : r < 10) : (⟨#[48, 49, 50, 51, 52, 53, 54, 55, 56, 57]⟩ : ByteArray).extract r (r + 1) = str [UInt8.ofNat (48 + r)] := by
 have key : ∀ r : Fin 10, (⟨#[48, 49, 50, 51, 52, 53, 54, 55, 56, 57]⟩ : ByteArray).extract r.val (r.val + 1) = str [UInt8.ofNat (48 + r.val)] := by decide
 exact key ⟨r, h⟩
/-! ### The words -/
def WordsAt (b : Nat) (w : World) : Prop := b < w.heap.size ∧ ∀ i, i < 42 → w.cell? ⟨b, i, none⟩ = some (.string (str (wds.getD i [])))
theorem WordsAt.keep {b : Nat} {w w' : World} (h : WordsAt b w) (hb : Below w.heap.size w w') : WordsAt b w' :=
 ⟨by have := h.1; have := hb.size; omega, fun i hi => keepc hb (h.2 i hi)⟩
theorem words_new (w : World) : WordsAt w.heap.size (w.alloc (.cells (wds.map (fun x => Value.string (str x))).toArray 9)) := by
 refine ⟨by simp, fun i hi => ?_⟩
 rw [cell_of_row _ _ i _ _ (0, 0) (heap_alloc_new w _)]
 have hl : wds.length = 42 := rfl
 simp [List.getD, hl, hi]
set_option maxRecDepth 100000 in
set_option maxHeartbeats 2000000 in
theorem rwords (w : World) :
  Calls Tryz.prog 95 #[] w fun e w' => e = .returned (.slice (some ⟨w.heap.size, 0, none⟩) 42 42) ∧ WordsAt w.heap.size w' ∧ Below w.heap.size w w' := by
 have hnew := words_new w
 have hb := bal (bref w) (.cells (wds.map (fun x => Value.string (str x))).toArray 9)
 go_enter Tryz.func95, Tryz.ntmps95
 go_wp2_with fail
 go_ret
 exact ⟨rfl, hnew, hb⟩
set_option maxRecDepth 100000 in
set_option maxHeartbeats 2000000 in
theorem rword (s : ByteArray) (w : World) :
  Calls Tryz.prog 73 #[.string s] w fun e w' => e = .returned (.bool (wrd (byt s))) ∧ Below w.heap.size w w' := by
 have RW := Lib.hid (rwords w)
 obtain ⟨R, hR⟩ : ∃ R, wrd (byt s) = R := ⟨_, rfl⟩
 have HR := Lib.hid hR
 rw [hR]
 clear hR
 go_enter Tryz.func73, Tryz.ntmps73
 go_wp2_with fail
 refine RW.out.mono ?_
 rintro e w1 ⟨rfl, hW, q1⟩
 have HW := Lib.hid hW
 have Q1 := Lib.hid q1
 have hb := hW.1
 clear hW q1
 go_wp2_with fail
 go_loop [4] (fun i => ∃ (k : Nat), k ≤ 42 ∧ i = .int .i64 k ∧ (wds.take k).contains (byt s) = false) (fun i => 42 - (RowKit.intOf i).toNat)
 case atStart => exact ⟨0, by omega, rfl, rfl⟩
 case round =>
  obtain ⟨k, hk, rfl, hA⟩ := hrel
  have HA := Lib.hid hA
  clear hA
  by_cases hlt : k < 42
  ·have c0 := HW.out.2 k hlt
   have hl : wds.length = 42 := rfl
   have ht : wds.take (k + 1) = wds.take k ++ [wds.getD k []] := by
    rw [List.take_succ_eq_append_getElem (by omega)]
    simp [List.getD, hl, hlt]
   have hm : wds.getD k [] ∈ wds := by
    have : wds.getD k [] = wds[k]'(by omega) := by simp [List.getD, hl, hlt]
    rw [this]; exact List.getElem_mem _
   obtain ⟨x, hx⟩ : ∃ x, wds.getD k [] = x := ⟨_, rfl⟩
   rw [hx] at c0 ht hm
   obtain ⟨X, hX⟩ : ∃ X, str x = X := ⟨_, rfl⟩
   have hXx : byt X = x := by rw [← hX, byt_str]
   rw [hX] at c0
   have hkz : (k : Int) < 42 := by omega
   cases hq : (X.toList == s.toList)
   ·have hne : x ≠ byt s := by
     rw [beq_eq_false_iff_ne, toList_data, toList_data] at hq
     rw [← hXx]; exact hq
    have HA2 : Hid ((wds.take (k + 1)).contains (byt s) = false) := Lib.hid (by
     have h1 := HA.out
     rw [ht]
     rw [List.contains_eq_mem, decide_eq_false_iff_not] at h1 ⊢
     rw [List.mem_append, List.mem_singleton]
     rintro (h | h)
     ·exact h1 h
     ·exact hne h.symm)
    clear hl ht hm hx hX hXx hne
    go_wp2_with fail
    go_round
    case rel => exact ⟨k + 1, by omega, by go_num, HA2.out⟩
    case measure => simp [RowKit.intOf]; omega
   ·have he : x = byt s := by
     have := eq_of_beq hq
     rw [toList_data, toList_data] at this
     rw [← hXx]; exact this
    have HQ : Hid (R = true) := Lib.hid (by
     rw [← HR.out]
     unfold wrd
     rw [List.contains_eq_mem, decide_eq_true_eq, ← he]; exact hm)
    clear hl ht hm hx hX hXx he
    go_wp2_with fail
    go_ret
    exact ⟨by rw [HQ.out]; rfl, Q1.out⟩
  ·have he : k = 42 := by omega
   subst he
   have HQ : Hid (R = false) := Lib.hid (by rw [← HR.out]; exact HA.out)
   go_wp2_with fail
   go_ret
   exact ⟨by rw [HQ.out]; rfl, Q1.out⟩
end Go.Proofs.YthanoilbcdhbkaaGreatDoor
