/-
  The walk of the law RoundingParts.
-/
import Derived.Test.YtjhfbnndapopgaaDoorSRefW3
import Derived.Test.YtjhfbnndapopgaaDoorRLive
namespace Go.Proofs.YtjhfbnndapopgaaDoor
open Go Go.RowKit Go.Sort WM

theorem rsplit_ok (a : Int) (b off cap : Nat) (zs : List Int) (w : World) (ha : goodB a = true) (hs : ¬ sumW zs = 0) (hb : b < w.heap.size) (hc : ∀ i, i < zs.length → w.cell? ⟨b, off + i, none⟩ = some (.int .i64 (zs.getD i 0))) :
    Calls Tryd.prog 32 #[.int .i64 a, .slice (some ⟨b, off, none⟩) zs.length cap] w fun e w' =>
      ∃ g c, e = .returned (.tuple #[.slice (some ⟨g, 0, none⟩) zs.length c, .int .i64 0]) ∧ XRow w' g zs.length (spL a zs) ∧ Below w.heap.size w w' := by
  obtain ⟨h64, hall, _, h1, h0⟩ := accepted hs
  obtain ⟨m, hm⟩ : ∃ m, zs.length = m + 1 := ⟨zs.length - 1, by omega⟩
  obtain ⟨L, hL, hLm, _, _⟩ := split_plain (max a (-a)) (sumI zs) m zs hm rfl h1
  have S := rsplit_small a (max a (-a)) (sumI zs) b off cap m L zs w ha rfl hm (by omega) hall rfl h1 (weight_le hall) hL hLm hb hc
  have e : spL a zs = finL a (bumps (partL (max a (-a)) (sumI zs) zs) ((psF m (remL (max a (-a)) (sumI zs) zs)).take L)) := by
    unfold spL spQ
    rw [hL, hm, Nat.add_sub_cancel, Int.toNat_natCast]
  rw [e]
  rw [show m + 1 = zs.length from hm.symm] at S
  exact S

set_option maxRecDepth 100000 in
set_option maxHeartbeats 8000000 in
theorem parts_of (L : Live2) (a : Int) (ao : Option Addr) (cap : Nat) (zs : List Int) (_ : I64 a) (w : World) (hch : Ch w)
    (hc : ∀ i, i < zs.length → ∃ b off, ao = some ⟨b, off, none⟩ ∧ b < w.heap.size ∧ w.cell? ⟨b, off + i, none⟩ = some (.int .i64 (zs.getD i 0))) :
    Calls Tryd.prog 7 #[.int .i64 a, .slice ao zs.length cap] w fun e w' => e = .returned (.bool true) ∧ Below w.heap.size w w' := by
  by_cases hbig : 100 < zs.length
  · have hb' : (100 : Int) < (zs.length : Int) := by omega
    have HC := Lib.hid hc
    clear hc hbig
    go_enter Tryd.func7, Tryd.ntmps7
    go_wp2_with fail
    refine (L _ hch).mono ?_
    rintro e w4 ⟨rfl, q4⟩
    go_wp2_with fail
    go_ret
    exact ⟨rfl, q4⟩
  have hb' : (zs.length : Int) ≤ 100 := by omega
  have main : ∀ (S1 : ∀ W, Below w.heap.size w W → Calls Tryd.prog 31 #[.int .i64 a, .slice ao zs.length cap] W fun e w' => e = .returned (.tuple #[.slice none 0 0, .int .i64 1]) ∧ Below W.heap.size W w')
      (S2 : ∀ W, Below w.heap.size w W → Calls Tryd.prog 32 #[.int .i64 a, .slice ao zs.length cap] W fun e w' => e = .returned (.tuple #[.slice none 0 0, .int .i64 1]) ∧ Below W.heap.size W w'),
      Calls Tryd.prog 7 #[.int .i64 a, .slice ao zs.length cap] w fun e w' => e = .returned (.bool true) ∧ Below w.heap.size w w' := by
    intro S1 S2
    have S1 := Lib.hid S1; have S2 := Lib.hid S2
    clear hc hbig
    go_enter Tryd.func7, Tryd.ntmps7
    go_wp2_with fail
    refine (S1.out _ (bref w)).mono ?_
    rintro e w1 ⟨rfl, q1⟩
    go_wp2_with fail
    refine (S2.out _ q1).mono ?_
    rintro e w2 ⟨rfl, q2⟩
    have Z2 := btr q1 q2
    go_wp2_with fail
    go_loopw [9] (fun i wr => i = .int .i64 0 ∧ w2 = wr) (fun _ _ => 0)
    case atStart => exact ⟨rfl, rfl⟩
    case round =>
      obtain ⟨rfl, rfl⟩ := hrel
      go_wp2_with fail
      refine (L _ (hch.keep Z2)).mono ?_
      rintro e w4 ⟨rfl, q4⟩
      have Z4 := btr Z2 q4
      go_wp2_with fail
      go_ret
      exact ⟨rfl, Z4⟩
  by_cases h0 : zs.length = 0
  · refine main (fun W _ => ?_) (fun W _ => ?_)
    · rw [h0]; exact split_empty a ao cap W
    · rw [h0]; exact rsplit_empty a ao cap W
  obtain ⟨b, off, rfl, hb, _⟩ := hc 0 (by omega)
  have hc : ∀ i, i < zs.length → w.cell? ⟨b, off + i, none⟩ = some (.int .i64 (zs.getD i 0)) := fun i hi => by
    obtain ⟨b2, o2, e, _, h⟩ := hc i hi
    simp only [Option.some.injEq, Addr.mk.injEq, and_true] at e
    rw [e.1, e.2]; exact h
  by_cases herr : goodB a = false ∨ sumW zs = 0
  · exact main (fun W hW => split_err a b off cap zs W (by omega) herr (fun i hi => keepc hW (hc i hi))) (fun W hW => rsplit_err a b off cap zs W (by omega) herr (fun i hi => keepc hW (hc i hi)))
  clear main
  have hg : goodB a = true := by
    cases h : goodB a
    · exact absurd (Or.inl h) herr
    · rfl
  have hs : ¬ sumW zs = 0 := fun h => herr (Or.inr h)
  have S1 := split_ok a b off cap zs w hg hs hb hc
  have S2 := fun W (hW : Below w.heap.size w W) => rsplit_ok a b off cap zs W hg hs (Nat.lt_of_lt_of_le hb hW.size) (fun i hi => keepc hW (hc i hi))
  obtain ⟨PL, hPL⟩ : ∃ PL, spL a zs = PL := ⟨_, rfl⟩
  rw [hPL] at S1
  simp only [hPL] at S2
  obtain ⟨n, hn⟩ : ∃ n, zs.length = n := ⟨_, rfl⟩
  rw [hn] at S1 hb' ⊢
  simp only [hn] at S2
  have S1 := Lib.hid S1; have S2 := Lib.hid S2
  clear hc hbig h0 herr hg hs hPL hn
  go_enter Tryd.func7, Tryd.ntmps7
  go_wp2_with fail
  refine S1.out.mono ?_
  rintro e w1 ⟨g1, c1, rfl, hX, q1⟩
  go_wp2_with fail
  refine (S2.out _ q1).mono ?_
  rintro e w2 ⟨g2, c2, rfl, hY, q2⟩
  have Z2 := btr q1 q2
  have hX2 : XRow w2 g1 n PL := ⟨hX.1, fun j hj => ⟨keepc q2 (hX.2 j hj).1, keepf q2 (hX.2 j hj).1 (hX.2 j hj).2⟩⟩
  have HX := Lib.hid hX2; have HY := Lib.hid hY
  clear hX hX2 hY q2
  go_wp2_with fail
  go_loopw [9] (fun i wr => ∃ k z : Nat, k ≤ n ∧ i = .int .i64 k ∧ wr = w2.drewN z) (fun i _ => n - (RowKit.intOf i).toNat)
  case atStart => exact ⟨0, 0, by omega, rfl, rfl⟩
  case round =>
    obtain ⟨k, z, hk, rfl, rfl⟩ := hrel
    by_cases hlt : k < n
    · have hkz : (k : Int) < (n : Int) := by omega
      obtain ⟨x1, _⟩ := HX.out.2 k hlt
      obtain ⟨x2, _⟩ := HY.out.2 k hlt
      obtain ⟨u, hu⟩ : ∃ u, PL.getD k 0 = u := ⟨_, rfl⟩
      rw [hu] at x1 x2
      clear hu
      go_wp2_with fail
      go_quiet (fail)
      go_wp2_with fail
      go_roundw
      case rel => exact ⟨k + 1, _, by omega, by go_num, rfl⟩
      case measure => simp [RowKit.intOf]; omega
    · have he : k = n := by omega
      subst he
      have Z3 := bdn Z2 z
      go_wp2_with fail
      refine (L _ (hch.keep Z3)).mono ?_
      rintro e w4 ⟨rfl, q4⟩
      have Z4 := btr Z3 q4
      go_wp2_with fail
      go_ret
      exact ⟨rfl, Z4⟩
end Go.Proofs.YtjhfbnndapopgaaDoor
