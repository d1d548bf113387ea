/-
  The document's run: its rounds, plain.
-/
import Derived.Test.YthanoilbcdhbkaaGreatDoorQNG
namespace Go.Proofs.YthanoilbcdhbkaaGreatDoor
open Go Go.RowKit Go.Lib Go.Shelf WM TM EM YM

theorem go_not {t : Int} {vs : List Vr} {c : List Ins} {f i : Nat} {S : Nat → St} {d : Nat} (h : certB (S i) = false) : go t vs c f i S d = (0, 9) := by
 cases f with
 | zero => rfl
 | succ f =>
  rw [go]
  match hS : S i with
  | none => rfl
  | some none => rfl
  | some (some l) => rw [hS] at h; cases h
theorem go_end {t : Int} {vs : List Vr} {c : List Ins} {f i : Nat} {S : Nat → St} {d : Nat} {l : List Int} (hS : S i = some (some l)) (hi : c.length ≤ i) : go t vs c (f + 1) i S d = if decide (l = [t]) = true then (((max d l.length : Nat) : Int), 0) else (0, 9) := by
 rw [go, hS]
 dsimp only
 rw [if_pos hi]
 by_cases e : l = [t] <;> simp [e]
theorem go_on {t : Int} {vs : List Vr} {c : List Ins} {f i : Nat} {S : Nat → St} {d : Nat} {l : List Int} (hS : S i = some (some l)) (hi : i < c.length) : go t vs c (f + 1) i S d =
  match aft vs c.length i (c.getD i I0) l with
  | none => (0, 9)
  | some m => if 16 < m.length then (0, 5) else go t vs c f (i + 1) (YM.step (c.getD i I0) i m S) (max d l.length) := by
 rw [go, hS]
 dsimp only
 rw [if_neg (by omega)]
 rfl
theorem aft_jump {vs : List Vr} {n i : Nat} {x : Ins} {l m : List Int} (h : aft vs n i x l = some m) (hj : x.1 = 4 ∨ x.1 = 5) : ∃ q : Nat, x.2.1 = (q : Int) ∧ i < q ∧ q ≤ n := by
 have key : (i : Int) < x.2.1 ∧ x.2.1 ≤ n := by
  unfold aft at h
  rw [if_neg (by omega)] at h
  by_cases hz : x.2.2 ≠ 0
  ·rw [if_pos hz] at h; cases h
  ·rw [if_neg hz, if_neg (by omega), if_neg (by omega)] at h
   rcases hj with hj | hj
   ·rw [if_pos hj] at h
    by_cases c : (i : Int) < x.2.1 ∧ x.2.1 ≤ n
    ·exact c
    ·rw [if_neg c] at h; cases h
   ·rw [if_neg (by omega), if_pos hj] at h
    by_cases c : l.getLast? = some 5 ∧ (i : Int) < x.2.1 ∧ x.2.1 ≤ n
    ·exact c.2
    ·rw [if_neg c] at h; cases h
 exact ⟨x.2.1.toNat, by omega, by omega, by omega⟩
theorem SVal.cert {s : St} {r m : Bool} {l : List Int} (h : SVal s r m l) : certB s = (r && !m) ∧ (certB s = true → s = some (some l)) := by
 obtain ⟨_, h2, h3, h4⟩ := h
 subst h2 h3
 match s, h4 with
 | none, _ => exact ⟨rfl, fun e => by cases e⟩
 | some none, _ => exact ⟨by simp [certB], fun e => by cases e⟩
 | some (some q), h4 => exact ⟨by simp [certB], fun _ => by rw [h4 q rfl]⟩
def Lr (M b n vn : Nat) (t : Int) (cd : Cd) (vo io : Option Addr) (vc ic : Nat) (w : World) (R : Int × Int) (k : Nat) (d : Nat) (W : World) : Prop :=
 ∃ S : Nat → St, DSs b n S W ∧ go cd.t cd.vs cd.c (n + 1 - k) k S d = R ∧ d ≤ 1000 ∧ Below w.heap.size w W ∧ M < b ∧
  W.cell? ⟨M, 0, none⟩ = some (.int .i64 t) ∧ W.cell? ⟨M, 1, none⟩ = some (.slice vo vn vc) ∧ W.cell? ⟨M, 2, none⟩ = some (.slice io n ic)
end Go.Proofs.YthanoilbcdhbkaaGreatDoor
