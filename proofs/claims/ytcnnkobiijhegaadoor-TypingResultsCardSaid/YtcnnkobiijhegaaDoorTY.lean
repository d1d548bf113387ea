/-
  Tokens: contracts of the document's own digits, Percent, Words, Word.
-/
import Derived.Test.YtcnnkobiijhegaaDoorTX
namespace Go.Proofs.YtcnnkobiijhegaaDoor
open Go Go.RowKit Go.Lib WM TM

theorem ten_piece (r : Nat) (h : r < 10) : (⟨#[48, 49, 50, 51, 52, 53, 54, 55, 56, 57]⟩ : ByteArray).extract r (r + 1) = str [UInt8.ofNat (48 + r)] := by
  have key : ∀ r : Fin 10, (⟨#[48, 49, 50, 51, 52, 53, 54, 55, 56, 57]⟩ : ByteArray).extract r.val (r.val + 1) = str [UInt8.ofNat (48 + r.val)] := by decide
  exact key ⟨r, h⟩
theorem pd_more (n0 j : Nat) : str [UInt8.ofNat (48 + n0 / 10 ^ j % 10)] ++ str (pd j n0) = str (pd (j + 1) n0) := by
  rw [str_app, pd_cons]; rfl
theorem wrap_nat (x : Nat) (h : x ≤ 1000000) : wrap64 (x : Int) = (x : Int) := by unfold wrap64; omega
theorem wrap_nat1 (x : Nat) (h : x < 10) : wrap64 ((x : Int) + 1) = (x : Int) + 1 := by unfold wrap64; omega
theorem trim_snoc (m : List UInt8) (c : UInt8) : trimRightB (m ++ [c]) c = trimRightB m c := by
  unfold trimRightB
  rw [List.reverse_append]
  show (List.dropWhile (fun x => x == c) (c :: m.reverse)).reverse = _
  rw [List.dropWhile_cons, if_pos (by simp)]
theorem trim_keep (m : List UInt8) (c : UInt8) (h : m.getLast? ≠ some c) : trimRightB m c = m := by
  have := trim_back m c 0 h
  rwa [List.replicate_zero, List.append_nil] at this
theorem wid_min (Q : Nat) (h : Q ≤ 100) : Q < 10 ^ wid Q ∧ 1 ≤ wid Q ∧ wid Q ≤ 10 ∧ ∀ j, j < wid Q → 10 ^ j ≤ Q ∨ j < 1 := by
  unfold wid
  by_cases h1 : Q < 10
  · rw [if_pos h1]
    exact ⟨h1, by omega, by omega, fun j hj => Or.inr hj⟩
  · rw [if_neg h1]
    by_cases h2 : Q < 100
    · rw [if_pos h2]
      refine ⟨h2, by omega, by omega, fun j hj => ?_⟩
      match j, hj with
      | 0, _ => exact Or.inr (by omega)
      | 1, _ => left; show 10 ≤ Q; omega
    · rw [if_neg h2]
      refine ⟨?_, by omega, by omega, fun j hj => ?_⟩
      · show Q < 1000; omega
      · match j, hj with
        | 0, _ => exact Or.inr (by omega)
        | 1, _ => left; show 10 ≤ Q; omega
        | 2, _ => left; show 100 ≤ Q; omega
theorem dec_len3 (Q : Nat) (h : Q ≤ 100) : (decDigits Q).length ≤ 3 := by
  rw [← dec_wid Q h, pd_length]
  unfold wid
  split
  · omega
  · split <;> omega
theorem byt_snoc (S : ByteArray) (m : Nat) (h : S.size = m + 1) : byt S = byt (S.extract 0 m) ++ [S[m]'(by omega)] := by
  rw [str_cut, byt_str, List.drop_zero]
  have h1 := take_snoc S m (by omega)
  rw [List.take_of_length_le (by rw [size_list]; omega)] at h1
  exact h1

/-! ### The words -/
/-- The words lie there. -/
def WordsAt (b : Nat) (w : World) : Prop := b < w.heap.size ∧ ∀ i, i < 42 → w.cell? ⟨b, i, none⟩ = some (.string (str (wds.getD i [])))
theorem WordsAt.keep {b : Nat} {w w' : World} (h : WordsAt b w) (hb : Below w.heap.size w w') : WordsAt b w' :=
  ⟨by have := h.1; have := hb.size; omega, fun i hi => keepc hb (h.2 i hi)⟩
theorem words_new (w : World) : WordsAt w.heap.size (w.alloc (.cells (wds.map (fun x => Value.string (str x))).toArray 9)) := by
  refine ⟨by simp, fun i hi => ?_⟩
  rw [cell_of_row _ _ i _ _ (0, 0) (heap_alloc_new w _)]
  have hl : wds.length = 42 := rfl
  simp [List.getD, hl, hi]
set_option maxRecDepth 100000 in
set_option maxHeartbeats 2000000 in
theorem rwords (w : World) :
    Calls Tryd.prog 39 #[] w fun e w' => e = .returned (.slice (some ⟨w.heap.size, 0, none⟩) 42 42) ∧ WordsAt w.heap.size w' ∧ Below w.heap.size w w' := by
  have hnew := words_new w
  have hb := bal (bref w) (.cells (wds.map (fun x => Value.string (str x))).toArray 9)
  go_enter Tryd.func39, Tryd.ntmps39
  go_wp2_with fail
  go_ret
  exact ⟨rfl, hnew, hb⟩
set_option maxRecDepth 100000 in
set_option maxHeartbeats 2000000 in
theorem rword (s : ByteArray) (w : World) :
    Calls Tryd.prog 33 #[.string s] w fun e w' => e = .returned (.bool (wrd (byt s))) ∧ Below w.heap.size w w' := by
  have RW := Lib.hid (rwords w)
  obtain ⟨R, hR⟩ : ∃ R, wrd (byt s) = R := ⟨_, rfl⟩
  have HR := Lib.hid hR
  rw [hR]
  clear hR
  go_enter Tryd.func33, Tryd.ntmps33
  go_wp2_with fail
  refine RW.out.mono ?_
  rintro e w1 ⟨rfl, hW, q1⟩
  have HW := Lib.hid hW
  have Q1 := Lib.hid q1
  have hb := hW.1
  clear hW q1
  go_wp2_with fail
  go_loop [4] (fun i => ∃ (k : Nat), k ≤ 42 ∧ i = .int .i64 k ∧ (wds.take k).contains (byt s) = false) (fun i => 42 - (RowKit.intOf i).toNat)
  case atStart => exact ⟨0, by omega, rfl, rfl⟩
  case round =>
    obtain ⟨k, hk, rfl, hA⟩ := hrel
    have HA := Lib.hid hA
    clear hA
    by_cases hlt : k < 42
    · have c0 := HW.out.2 k hlt
      have hl : wds.length = 42 := rfl
      have ht : wds.take (k + 1) = wds.take k ++ [wds.getD k []] := by
        rw [List.take_succ_eq_append_getElem (by omega)]
        simp [List.getD, hl, hlt]
      have hm : wds.getD k [] ∈ wds := by
        have : wds.getD k [] = wds[k]'(by omega) := by simp [List.getD, hl, hlt]
        rw [this]; exact List.getElem_mem _
      obtain ⟨x, hx⟩ : ∃ x, wds.getD k [] = x := ⟨_, rfl⟩
      rw [hx] at c0 ht hm
      obtain ⟨X, hX⟩ : ∃ X, str x = X := ⟨_, rfl⟩
      have hXx : byt X = x := by rw [← hX, byt_str]
      rw [hX] at c0
      have hkz : (k : Int) < 42 := by omega
      cases hq : (X.toList == s.toList)
      · have hne : x ≠ byt s := by
          rw [beq_eq_false_iff_ne, toList_data, toList_data] at hq
          rw [← hXx]; exact hq
        have HA2 : Hid ((wds.take (k + 1)).contains (byt s) = false) := Lib.hid (by
          have h1 := HA.out
          rw [ht]
          rw [List.contains_eq_mem, decide_eq_false_iff_not] at h1 ⊢
          rw [List.mem_append, List.mem_singleton]
          rintro (h | h)
          · exact h1 h
          · exact hne h.symm)
        clear hl ht hm hx hX hXx hne
        go_wp2_with fail
        go_round
        case rel => exact ⟨k + 1, by omega, by go_num, HA2.out⟩
        case measure => simp [RowKit.intOf]; omega
      · have he : x = byt s := by
          have := eq_of_beq hq
          rw [toList_data, toList_data] at this
          rw [← hXx]; exact this
        have HQ : Hid (R = true) := Lib.hid (by
          rw [← HR.out]
          unfold wrd
          rw [List.contains_eq_mem, decide_eq_true_eq, ← he]; exact hm)
        clear hl ht hm hx hX hXx he
        go_wp2_with fail
        go_ret
        exact ⟨by rw [HQ.out]; rfl, Q1.out⟩
    · have he : k = 42 := by omega
      subst he
      have HQ : Hid (R = false) := Lib.hid (by rw [← HR.out]; exact HA.out)
      go_wp2_with fail
      go_ret
      exact ⟨by rw [HQ.out]; rfl, Q1.out⟩
end Go.Proofs.YtcnnkobiijhegaaDoor
