/-
  The contract of the document's own Split.
-/
import Derived.Test.YtjhfbnndapopgaaDoorSSel
import Derived.Test.YtjhfbnndapopgaaDoorRefG
import Derived.Test.YtjhfbnndapopgaaDoorRefE
import Derived.Test.YtjhfbnndapopgaaDoorRA
namespace Go.Proofs.YtjhfbnndapopgaaDoor
open Go Go.RowKit Go.Sort WM

set_option maxRecDepth 100000 in
set_option maxHeartbeats 8000000 in
theorem rsplit_err (a : Int) (b off cap : Nat) (zs : List Int) (w : World) (hlen : zs.length ≤ 1000000) (h : goodB a = false ∨ sumW zs = 0) (hc : ∀ i, i < zs.length → w.cell? ⟨b, off + i, none⟩ = some (.int .i64 (zs.getD i 0))) :
    Calls Tryd.prog 32 #[.int .i64 a, .slice (some ⟨b, off, none⟩) zs.length cap] w fun e w' =>
      e = .returned (.tuple #[.slice none 0 0, .int .i64 1]) ∧ Below w.heap.size w w' := by
  have TT := total_any b off cap zs w hlen hc
  have GA := fun W => rgood_any a W
  by_cases hg : goodB a = true
  · have h0 : sumW zs = 0 := by
      rcases h with h | h
      · rw [hg] at h; cases h
      · exact h
    rw [h0] at TT
    simp only [hg] at GA
    have GA := Lib.hid GA; have TT := Lib.hid TT
    clear h hc
    go_enter Tryd.func32, Tryd.ntmps32
    go_wp2_with fail
    refine TT.out.mono ?_
    rintro e w1 ⟨⟨t, rfl, _⟩, q, rfl⟩
    go_wp2_with fail
    refine (GA.out _).mono ?_
    rintro e w1 ⟨rfl, rfl⟩
    go_wp2_with fail
    go_ret2
    exact ⟨rfl, bdn (bref _) q⟩
  · have hg : goodB a = false := by simpa using hg
    obtain ⟨B, hB⟩ : ∃ B, decide (0 < sumW zs) = B := ⟨_, rfl⟩
    rw [hB] at TT
    simp only [hg] at GA
    have GA := Lib.hid GA; have TT := Lib.hid TT
    clear h hc hB
    go_enter Tryd.func32, Tryd.ntmps32
    go_wp2_with fail
    refine TT.out.mono ?_
    rintro e w1 ⟨⟨t, rfl, _⟩, q, rfl⟩
    go_wp2_with fail
    refine (GA.out _).mono ?_
    rintro e w1 ⟨rfl, rfl⟩
    go_wp2_with fail
    go_ret2
    exact ⟨rfl, bdn (bref _) q⟩

set_option maxRecDepth 100000 in
set_option maxHeartbeats 8000000 in
theorem rsplit_empty (a : Int) (ao : Option Addr) (cap : Nat) (w : World) : Calls Tryd.prog 32 #[.int .i64 a, .slice ao (0 : Nat) cap] w fun e w' => e = .returned (.tuple #[.slice none 0 0, .int .i64 1]) ∧ Below w.heap.size w w' := by
  have SM := Lib.hid (fun W => total_empty ao cap W)
  have GA := fun W => rgood_any a W
  obtain ⟨g, hg⟩ : ∃ g, goodB a = g := ⟨_, rfl⟩
  simp only [hg] at GA
  have GA := Lib.hid GA
  clear hg
  cases g
  all_goals
    go_enter Tryd.func32, Tryd.ntmps32
    go_wp2_with fail
    refine (SM.out _).mono ?_
    rintro e w1 ⟨rfl, q, rfl⟩
    go_wp2_with fail
    refine (GA.out _).mono ?_
    rintro e w1 ⟨rfl, rfl⟩
    go_wp2_with fail
    go_ret2
    exact ⟨rfl, bdn (bref _) q⟩
end Go.Proofs.YtjhfbnndapopgaaDoor
