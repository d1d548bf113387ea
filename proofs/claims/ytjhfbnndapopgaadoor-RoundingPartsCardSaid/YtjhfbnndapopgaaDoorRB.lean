/-
  Contracts of rise and of the document's own up: which one of the two integers next to a quotient is taken.
-/
import Derived.Test.YtjhfbnndapopgaaDoorRA
import Derived.Test.YtjhfbnndapopgaaDoorMath
import Derived.Test.YtjhfbnndapopgaaDoorFmt
namespace Go.Proofs.YtjhfbnndapopgaaDoor
open Go Go.RowKit WM

/-- The program's table of the modes reads as its text lays it. -/
def Ch (w : World) : Prop := Lib.TabIs Tryd.prog w "corebank/rounding.choices" .i64 choicesTab
theorem Ch.keep {w w' : World} (h : Ch w) (hb : Below w.heap.size w w') : Ch w' := Lib.tabBelow_of_tabIs h w' hb
theorem gCh : Tryd.prog.globalNamed "corebank/rounding.choices" = some 0 := by kernel_rfl
theorem Ch.cell {w : World} (h : Ch w) (i : Nat) (hi : i < 42) : w.cell? ⟨0, i, none⟩ = some (.int .i64 (choicesTab.getD i 0)) :=
  Lib.TabIs.cell h gCh i hi

theorem up_any (neg odd : Bool) (r n m : Int) (hn : 0 ≤ n - r ∧ n ≤ 9223372036854775807) (hr0 : 0 ≤ r) (hm : 1 ≤ m ∧ m ≤ 6) (w : World) :
    Calls Tryd.prog 53 #[.bool neg, .bool odd, .int .i64 r, .int .i64 n, .int .i64 m] w fun e w' => e = .returned (.bool (upB neg odd r n m)) ∧ w = w' := by
  have hc : m = 1 ∨ m = 2 ∨ m = 3 ∨ m = 4 ∨ m = 5 ∨ m = 6 := by omega
  rcases hc with rfl | rfl | rfl | rfl | rfl | rfl
  · have H : Hid (upB neg odd r n 1 = neg) := Lib.hid rfl
    go_enter Tryd.func53, Tryd.ntmps53
    go_wp2_with fail
    go_ret
    exact ⟨by rw [H.out]; rfl, rfl⟩
  · have H : Hid (upB neg odd r n 2 = !neg) := Lib.hid rfl
    go_enter Tryd.func53, Tryd.ntmps53
    go_wp2_with fail
    go_ret
    exact ⟨by rw [H.out]; rfl, rfl⟩
  · have H : Hid (upB neg odd r n 3 = false) := Lib.hid rfl
    go_enter Tryd.func53, Tryd.ntmps53
    go_wp2_with fail
    go_ret
    exact ⟨by rw [H.out]; rfl, rfl⟩
  · have H : Hid (upB neg odd r n 4 = true) := Lib.hid rfl
    go_enter Tryd.func53, Tryd.ntmps53
    go_wp2_with fail
    go_ret
    exact ⟨by rw [H.out]; rfl, rfl⟩
  all_goals
    by_cases c : r = n - r
    · have c1 : (r != n - r) = false := by rw [bne_eq_false_iff_eq]; exact c
      have c2 : (r == n - r) = true := by rw [beq_iff_eq]; exact c
      first
        | (have H : Hid (upB neg odd r n 5 = !neg) := Lib.hid (by unfold upB; simp only [ne_eq, ← c, not_true_eq_false, if_false]; rfl)
           clear c
           go_enter Tryd.func53, Tryd.ntmps53
           go_wp2_with fail
           go_ret
           exact ⟨by rw [H.out]; rfl, rfl⟩)
        | (have H : Hid (upB neg odd r n 6 = odd) := Lib.hid (by unfold upB; simp only [ne_eq, ← c, not_true_eq_false, if_false]; rfl)
           clear c
           go_enter Tryd.func53, Tryd.ntmps53
           go_wp2_with fail
           go_ret
           exact ⟨by rw [H.out]; rfl, rfl⟩)
    · have c1 : (r != n - r) = true := by rw [bne_iff_ne]; exact c
      have c2 : (r == n - r) = false := by rw [beq_eq_false_iff_ne]; exact c
      have H : ∀ m : Int, (m = 5 ∨ m = 6) → upB neg odd r n m = decide (n - r < r) := by
        intro m hm; rcases hm with rfl | rfl <;> (unfold upB; simp only [ne_eq, c, not_false_eq_true, if_true]; rfl)
      have H := Lib.hid H
      clear c
      go_enter Tryd.func53, Tryd.ntmps53
      go_wp2_with fail
      go_ret
      exact ⟨by rw [H.out _ (by omega)]; rfl, rfl⟩
end Go.Proofs.YtjhfbnndapopgaaDoor
