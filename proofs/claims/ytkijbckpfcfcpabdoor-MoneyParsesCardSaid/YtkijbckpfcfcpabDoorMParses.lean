/-
  The contract of the document's own Parse of an amount, and the walk of the law MoneyParses.
-/
import Derived.Test.YtkijbckpfcfcpabDoorMRefPW
import Derived.Test.YtkijbckpfcfcpabDoorMLives
namespace Go.Proofs.YtkijbckpfcfcpabDoor
open Go Go.RowKit Go.Lib WM

set_option maxHeartbeats 1000000 in
theorem rparse_no (s : ByteArray) (d : Int) (hd : d < 0 ∨ 4 < d) (w : World) :
    Calls Tryd.prog 26 #[.string s, .int .i64 d] w fun e w' => e = .returned (.tuple #[.int .i64 0, .int .i64 1]) ∧ w = w' := by
  rcases hd with h | h
  · have hd1 : decide (d < 0) = true := by simpa using h
    go_enter Tryd.func26, Tryd.ntmps26
    go_wp2_with fail
    go_ret2
    exact ⟨rfl, rfl⟩
  · have hd0 : ¬ d < 0 := by omega
    have hd1 : decide (d < 0) = false := by simpa using hd0
    have hd2 : decide (4 < d) = true := by simpa using h
    go_enter Tryd.func26, Tryd.ntmps26
    go_wp2_with fail
    go_ret2
    exact ⟨rfl, rfl⟩
theorem at_any (u : List UInt8) (d : Nat) : ((d = 0 ∧ u.length = 0) ∨ (1 ≤ d ∧ (u.length : Int) - d - 1 < 1)) ∨ (d = 0 ∧ At u 0 u.length ∧ 1 ≤ u.length) ∨ (1 ≤ d ∧ ∃ p, At u d p ∧ 1 ≤ p) := by
  by_cases h0 : d = 0
  · subst h0
    by_cases hu : u.length = 0
    · exact Or.inl (Or.inl ⟨rfl, hu⟩)
    · exact Or.inr (Or.inl ⟨rfl, Or.inl ⟨rfl, rfl⟩, by omega⟩)
  · by_cases hp : (u.length : Int) - d - 1 < 1
    · exact Or.inl (Or.inr ⟨by omega, hp⟩)
    · exact Or.inr (Or.inr ⟨by omega, u.length - d - 1, Or.inr ⟨by omega, by omega⟩, by omega⟩)
theorem rparse (s : ByteArray) (d : Int) (hs : s.size ≤ 1000000) (w : World) :
    Calls Tryd.prog 26 #[.string s, .int .i64 d] w fun e w' => e = .returned (.tuple #[.int .i64 (prV s.data.toList d), .int .i64 (prE s.data.toList d)]) ∧ w = w' := by
  cases hp : plB d
  · obtain ⟨e1, e2⟩ := pr_arg s.data.toList d hp
    have hd : d < 0 ∨ 4 < d := by
      have : ¬ (0 ≤ d ∧ d ≤ 4) := by simpa [plB] using hp
      omega
    rw [e1, e2]
    exact rparse_no s d hd w
  · have hd : 0 ≤ d ∧ d ≤ 4 := by simpa [plB] using hp
    obtain ⟨n, rfl⟩ : ∃ n : Nat, d = n := ⟨d.toNat, by omega⟩
    obtain ⟨U, hP, hU⟩ := pre_any s
    have A1 := pr_syn s.data.toList n hp
    have A2 := pr_zero s.data.toList n hp
    have A3 := pr_big s.data.toList n hp
    have A4 := pr_good s.data.toList n hp
    rw [hU] at A1 A2 A3 A4
    have hUs : U.size ≤ 1000000 := by
      rcases hP with ⟨_, _, _, e⟩ | ⟨_, rfl, _⟩ | ⟨_, rfl, _⟩
      · rw [← e, ByteArray.size_extract]; omega
      · exact hs
      · exact hs
    have hsz := size_list U
    rcases at_any U.data.toList n with hW | ⟨rfl, hAt, hp1⟩ | ⟨hn1, p, hAt, hp1⟩
    · have hk : pOk U.data.toList n = false := by
        rcases hW with ⟨rfl, h⟩ | ⟨h1, h2⟩
        · apply ok_short; unfold pWhole; rw [if_pos rfl]; exact List.eq_nil_of_length_eq_zero h
        · exact ok_small h2 h1
      obtain ⟨e1, e2⟩ := A1 hk
      rw [e1, e2]
      rw [hsz] at hW
      exact rparse_short s U _ n (by omega) hs hP hW w
    · rw [hsz] at hAt hp1
      generalize isNeg s.data.toList = G at hP A2 A4
      rcases hP with ⟨rfl, h0, h1, h2⟩ | ⟨rfl, rfl, h0, h1⟩ | ⟨rfl, rfl, h0⟩
      · exact rparse_n0 s U _ _ h0 h1 h2 hUs hs hAt hp1 A1 A2 A3 A4 w
      · exact rparse_p0 _ _ _ h0 h1 hUs hAt hp1 A1 A2 A3 A4 w
      · omega
    · generalize isNeg s.data.toList = G at hP A2 A4
      rcases hP with ⟨rfl, h0, h1, h2⟩ | ⟨rfl, rfl, h0, h1⟩ | ⟨rfl, rfl, h0⟩
      · exact rparse_n1 s U n p _ _ h0 h1 h2 hUs hs hAt hp1 hn1 (by omega) A1 A2 A3 A4 w
      · exact rparse_p1 _ n p _ _ h0 h1 hUs hAt hp1 hn1 (by omega) A1 A2 A3 A4 w
      · have := hAt.le; omega

set_option maxRecDepth 100000 in
set_option maxHeartbeats 4000000 in
theorem parses_any (s : ByteArray) (d : Int) (hs : s.size ≤ maxLen) (_ : I64 d) (w : World) (ht : Tb w) :
    Calls Tryd.prog 8 #[.string s, .int .i64 d] w fun e w' => e = .returned (.bool true) ∧ Below w.heap.size w w' := by
  have hs' : s.size ≤ 9223372036854775807 := by unfold maxLen at hs; omega
  by_cases hbig : 100 < s.size
  · have hz : (100 : Int) < (s.size : Int) := by omega
    clear hbig
    go_enter Tryd.func8, Tryd.ntmps8
    go_wp2_with fail
    refine (lives_any _ ht).mono ?_
    rintro e w1 ⟨rfl, q1⟩
    go_wp2_with fail
    go_ret
    exact ⟨rfl, q1⟩
  · have hz : ¬ (100 : Int) < (s.size : Int) := by omega
    have C1 := fun W => mparse s d hs' W
    have C2 := fun W => rparse s d (by omega) W
    obtain ⟨Q, h1⟩ : ∃ x, prV s.data.toList d = x := ⟨_, rfl⟩
    obtain ⟨E, h2⟩ : ∃ x, prE s.data.toList d = x := ⟨_, rfl⟩
    simp only [h1, h2] at C1 C2
    have C1 := Lib.hid C1; have C2 := Lib.hid C2
    clear hbig h1 h2 hs hs'
    go_enter Tryd.func8, Tryd.ntmps8
    go_wp2_with fail
    refine (C1.out _).mono ?_
    rintro e w1 ⟨rfl, q1⟩
    go_wp2_with fail
    refine (C2.out _).mono ?_
    rintro e w2 ⟨rfl, rfl⟩
    go_wp2_with fail
    refine (lives_any _ (ht.keep q1)).mono ?_
    rintro e w3 ⟨rfl, q3⟩
    have Z3 := btr q1 q3
    go_wp2_with fail
    go_ret
    exact ⟨rfl, Z3⟩
end Go.Proofs.YtkijbckpfcfcpabDoor
