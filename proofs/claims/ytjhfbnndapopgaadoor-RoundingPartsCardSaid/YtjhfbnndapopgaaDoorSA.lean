/-
  A stable sort by blocks: merging in place, plain and walked (merged texts).
-/
import Derived.Test.YtjhfbnndapopgaaDoorProg
import Derived.WalkKit
import Derived.Below
import Derived.Lib.Hide
import Derived.Shelf.RegionOpenPlain
import Derived.Sort.WalkA
import Derived.Sort.WalkC
import Derived.Deep.LoopGhost
import Derived.Deep.QuietTactic
import Derived.BigQuiet
import Derived.BigRegion
import Derived.Shelf.SlSortCmp.Insertion
import Derived.Test.YtjhfbnndapopgaaDoorShelf
import Derived.LoopN
/- A stable sort by blocks, plain: swapping ranges, rotating, merging in place; places as natural numbers, the greater number first, then the lesser place. -/
namespace Go.Proofs.YtjhfbnndapopgaaDoor.WM

section
variable {α : Type}
def swp1 (g : Nat → α) (i j : Nat) : Nat → α := fun k => if k = i then g j else if k = j then g i else g k
def swF (f : Nat → α) (a b n : Nat) : Nat → α := fun k => if a ≤ k ∧ k < a + n then f (k - a + b) else if b ≤ k ∧ k < b + n then f (k - b + a) else f k
def rotF (f : Nat → α) (a m b : Nat) : Nat → α := fun k => if a ≤ k ∧ k < a + (b - m) then f (k + (m - a)) else if a + (b - m) ≤ k ∧ k < b then f (k - (b - m)) else f k
theorem swF_zero (f : Nat → α) (a b : Nat) : swF f a b 0 = f := by
  funext k
  unfold swF
  rw [if_neg (by omega), if_neg (by omega)]
theorem swF_succ (f : Nat → α) (a b n : Nat) (h : a + n < b) : swF f a b (n + 1) = swp1 (swF f a b n) (a + n) (b + n) := by
  funext k
  unfold swp1 swF
  by_cases h1 : k = a + n
  · subst h1
    rw [if_pos (by omega), if_pos rfl, if_neg (by omega), if_neg (by omega)]
    congr 1; omega
  · rw [if_neg h1]
    by_cases h2 : k = b + n
    · subst h2
      rw [if_neg (by omega), if_pos (by omega), if_pos rfl, if_neg (by omega), if_neg (by omega)]
      congr 1; omega
    · rw [if_neg h2]
      by_cases c1 : a ≤ k ∧ k < a + n
      · rw [if_pos (by omega), if_pos c1]
      · rw [if_neg (by omega), if_neg c1]
        by_cases c2 : b ≤ k ∧ k < b + n
        · rw [if_pos (by omega), if_pos c2]
        · rw [if_neg (by omega), if_neg c2]
theorem rot_eq (f : Nat → α) (m i : Nat) (h : i ≤ m) : swF f (m - i) m i = rotF f (m - i) m (m + i) := by
  funext k
  unfold swF rotF
  by_cases c1 : m - i ≤ k ∧ k < m - i + i
  · rw [if_pos c1, if_pos (by omega)]; congr 1; omega
  · by_cases c2 : m ≤ k ∧ k < m + i
    · rw [if_neg c1, if_pos c2, if_neg (by omega), if_pos (by omega)]; congr 1; omega
    · rw [if_neg c1, if_neg c2, if_neg (by omega), if_neg (by omega)]
theorem rot_gt (f : Nat → α) (m i j : Nat) (h : i ≤ m) (hij : j < i) : rotF (swF f (m - i) m j) (m - i + j) m (m + j) = rotF f (m - i) m (m + j) := by
  funext k
  by_cases c0 : k < m - i ∨ m + j ≤ k
  · unfold rotF swF
    rw [if_neg (by omega), if_neg (by omega), if_neg (by omega), if_neg (by omega), if_neg (by omega), if_neg (by omega)]
  · by_cases c1 : k < m - i + j
    · have e1 : rotF (swF f (m - i) m j) (m - i + j) m (m + j) k = swF f (m - i) m j k := by
        unfold rotF; rw [if_neg (by omega), if_neg (by omega)]
      rw [e1]
      unfold rotF swF
      rw [if_pos (by omega), if_pos (by omega)]; congr 1; omega
    · by_cases c2 : k < m - i + j + j
      · have e1 : rotF (swF f (m - i) m j) (m - i + j) m (m + j) k = swF f (m - i) m j (k + (m - (m - i + j))) := by
          unfold rotF; rw [if_pos (by omega)]
        have e2 : rotF f (m - i) m (m + j) k = f (k - j) := by
          unfold rotF; rw [if_neg (by omega), if_pos (by omega)]; congr 1; omega
        rw [e1, e2]
        unfold swF
        rw [if_neg (by omega), if_pos (by omega)]; congr 1; omega
      · have e1 : rotF (swF f (m - i) m j) (m - i + j) m (m + j) k = swF f (m - i) m j (k - j) := by
          unfold rotF; rw [if_neg (by omega), if_pos (by omega)]; congr 1; omega
        have e2 : rotF f (m - i) m (m + j) k = f (k - j) := by
          unfold rotF; rw [if_neg (by omega), if_pos (by omega)]; congr 1; omega
        rw [e1, e2]
        unfold swF
        rw [if_neg (by omega), if_neg (by omega)]
theorem rot_lt (f : Nat → α) (m i j : Nat) (h : i ≤ m) (hij : i < j) : rotF (swF f (m - i) (m + j - i) i) (m - i) m (m + (j - i)) = rotF f (m - i) m (m + j) := by
  funext k
  by_cases c0 : k < m - i ∨ m + j ≤ k
  · unfold rotF swF
    rw [if_neg (by omega), if_neg (by omega), if_neg (by omega), if_neg (by omega), if_neg (by omega), if_neg (by omega)]
  · by_cases c1 : m + (j - i) ≤ k
    · have e1 : rotF (swF f (m - i) (m + j - i) i) (m - i) m (m + (j - i)) k = swF f (m - i) (m + j - i) i k := by
        unfold rotF; rw [if_neg (by omega), if_neg (by omega)]
      have e2 : rotF f (m - i) m (m + j) k = f (k - j) := by
        unfold rotF; rw [if_neg (by omega), if_pos (by omega)]; congr 1; omega
      rw [e1, e2]
      unfold swF
      rw [if_neg (by omega), if_pos (by omega)]; congr 1; omega
    · by_cases c2 : k < m - i + (j - i)
      · have e1 : rotF (swF f (m - i) (m + j - i) i) (m - i) m (m + (j - i)) k = swF f (m - i) (m + j - i) i (k + i) := by
          unfold rotF; rw [if_pos (by omega)]; congr 1; omega
        have e2 : rotF f (m - i) m (m + j) k = f (k + i) := by
          unfold rotF; rw [if_pos (by omega)]; congr 1; omega
        rw [e1, e2]
        unfold swF
        rw [if_neg (by omega), if_neg (by omega)]
      · have e1 : rotF (swF f (m - i) (m + j - i) i) (m - i) m (m + (j - i)) k = swF f (m - i) (m + j - i) i (k - (j - i)) := by
          unfold rotF; rw [if_neg (by omega), if_pos (by omega)]; congr 1; omega
        have e2 : rotF f (m - i) m (m + j) k = f (k + i) := by
          unfold rotF; rw [if_pos (by omega)]; congr 1; omega
        rw [e1, e2]
        unfold swF
        rw [if_pos (by omega)]; congr 1; omega
/-- Where there is nothing on one side, rotating changes nothing. -/
theorem rot_none (f : Nat → α) (a m b : Nat) (h : a = m ∨ m = b) (h1 : a ≤ m) (h2 : m ≤ b) : rotF f a m b = f := by
  funext k
  unfold rotF
  rcases h with rfl | rfl
  · by_cases c : a ≤ k ∧ k < a + (b - a)
    · rw [if_pos c]; congr 1; omega
    · rw [if_neg c, if_neg (by omega)]
  · rw [if_neg (by omega)]
    by_cases c : a + (m - m) ≤ k ∧ k < m
    · rw [if_pos c]; congr 1; omega
    · rw [if_neg c]
/-- One more step of an element that goes up, and of one that goes down. -/
theorem rot_up (f : Nat → α) (a k : Nat) (h : a ≤ k) : rotF f a (a + 1) (k + 2) = swp1 (rotF f a (a + 1) (k + 1)) k (k + 1) := by
  funext x
  unfold swp1
  by_cases c1 : x = k
  · subst c1
    rw [if_pos rfl]
    unfold rotF
    rw [if_pos (by omega), if_neg (by omega), if_neg (by omega)]; congr 1; omega
  · rw [if_neg c1]
    by_cases c2 : x = k + 1
    · subst c2
      rw [if_pos rfl]
      unfold rotF
      rw [if_neg (by omega), if_pos (by omega), if_neg (by omega), if_pos (by omega)]; congr 1; omega
    · rw [if_neg c2]
      unfold rotF
      by_cases c3 : a ≤ x ∧ x < k
      · rw [if_pos (by omega), if_pos (by omega)]
      · rw [if_neg (by omega), if_neg (by omega), if_neg (by omega), if_neg (by omega)]
theorem rot_down (f : Nat → α) (k m : Nat) (h : k < m) : rotF f k m (m + 1) = swp1 (rotF f (k + 1) m (m + 1)) (k + 1) k := by
  funext x
  unfold swp1
  by_cases c1 : x = k + 1
  · subst c1
    rw [if_pos rfl]
    unfold rotF
    rw [if_neg (by omega), if_pos (by omega), if_neg (by omega), if_neg (by omega)]; congr 1; omega
  · rw [if_neg c1]
    by_cases c2 : x = k
    · subst c2
      rw [if_pos rfl]
      unfold rotF
      rw [if_pos (by omega), if_pos (by omega)]; congr 1; omega
    · rw [if_neg c2]
      unfold rotF
      by_cases c3 : k + 1 < x ∧ x < m + 1
      · rw [if_neg (by omega), if_pos (by omega), if_neg (by omega), if_pos (by omega)]
      · rw [if_neg (by omega), if_neg (by omega), if_neg (by omega), if_neg (by omega)]
end

/-- The place x stands before the place y: its number is greater, or as great and the place lesser. -/
def bef (v : Nat → Int) (x y : Nat) : Prop := v y < v x ∨ (v x = v y ∧ x < y)
theorem bef_trans {v : Nat → Int} {x y z : Nat} (h1 : bef v x y) (h2 : bef v y z) : bef v x z := by unfold bef at *; omega
theorem bef_total {v : Nat → Int} {x y : Nat} (h : x ≠ y) (hn : ¬ bef v x y) : bef v y x := by unfold bef at *; omega
theorem bef_cross {v : Nat → Int} {x y : Nat} (h : x < y) : bef v y x ↔ v x < v y := by unfold bef; omega
theorem bef_ne {v : Nat → Int} {x y : Nat} (h : bef v x y) : x ≠ y := by unfold bef at h; intro e; subst e; omega
def SortedOn (v : Nat → Int) (f : Nat → Nat) (a b : Nat) : Prop := ∀ i j, a ≤ i → i < j → j < b → bef v (f i) (f j)
def LeftOf (f : Nat → Nat) (a m b : Nat) : Prop := ∀ i j, a ≤ i → i < m → m ≤ j → j < b → f i < f j
def SubOn (g f : Nat → Nat) (a b : Nat) : Prop := ∀ k, a ≤ k → k < b → ∃ k', a ≤ k' ∧ k' < b ∧ g k = f k'
def SameOut (g f : Nat → Nat) (a b : Nat) : Prop := ∀ k, k < a ∨ b ≤ k → g k = f k
structure MergeTo (v : Nat → Int) (f g : Nat → Nat) (a b : Nat) : Prop where
  sorted : SortedOn v g a b
  sub : SubOn g f a b
  same : SameOut g f a b
theorem SubOn.trans {f g h : Nat → Nat} {a b : Nat} (h1 : SubOn h g a b) (h2 : SubOn g f a b) : SubOn h f a b := by
  intro k k0 k1
  obtain ⟨k', a1, a2, e⟩ := h1 k k0 k1
  obtain ⟨k'', b1, b2, e2⟩ := h2 k' a1 a2
  exact ⟨k'', b1, b2, by rw [e, e2]⟩
theorem rot_sub (f : Nat → Nat) (a x m y b : Nat) (h0 : a ≤ x) (h1 : x ≤ m) (h2 : m ≤ y) (h3 : y ≤ b) : SubOn (rotF f x m y) f a b := by
  intro k k0 k1
  unfold rotF
  by_cases c1 : x ≤ k ∧ k < x + (y - m)
  · rw [if_pos c1]; exact ⟨k + (m - x), by omega, by omega, rfl⟩
  · rw [if_neg c1]
    by_cases c2 : x + (y - m) ≤ k ∧ k < y
    · rw [if_pos c2]; exact ⟨k - (y - m), by omega, by omega, rfl⟩
    · rw [if_neg c2]; exact ⟨k, k0, k1, rfl⟩
theorem rot_same (f : Nat → Nat) (a x m y b : Nat) (h0 : a ≤ x) (h1 : x ≤ m) (h2 : m ≤ y) (h3 : y ≤ b) : SameOut (rotF f x m y) f a b := by
  intro k hk
  unfold rotF
  rw [if_neg (by omega), if_neg (by omega)]
/-- One element on the left. -/
theorem merge_left {v : Nat → Int} {f : Nat → Nat} {a b i : Nat} (hs : SortedOn v f (a + 1) b) (hl : LeftOf f a (a + 1) b) (hi0 : a + 1 ≤ i) (hib : i ≤ b)
    (h1 : i = a + 1 ∨ bef v (f (i - 1)) (f a)) (h2 : i = b ∨ ¬ bef v (f i) (f a)) : MergeTo v f (rotF f a (a + 1) i) a b := by
  refine ⟨?_, rot_sub f a a (a + 1) i b (by omega) (by omega) hi0 hib, rot_same f a a (a + 1) i b (by omega) (by omega) hi0 hib⟩
  have r1 : ∀ k, a + 1 ≤ k → k < i → bef v (f k) (f a) := by
    intro k k0 k1
    rcases h1 with e | e
    · omega
    · by_cases c : k = i - 1
      · rw [c]; exact e
      · exact bef_trans (hs k (i - 1) k0 (by omega) (by omega)) e
  have r2 : ∀ k, i ≤ k → k < b → bef v (f a) (f k) := by
    intro k k0 k1
    rcases h2 with e | e
    · omega
    · have hb : bef v (f a) (f i) := bef_total (fun c => by have := hl a i (by omega) (by omega) hi0 (by omega); omega) e
      by_cases c : k = i
      · rw [c]; exact hb
      · exact bef_trans hb (hs i k hi0 (by omega) k1)
  have e1 : ∀ k, a ≤ k → k < i - 1 → rotF f a (a + 1) i k = f (k + 1) := by
    intro k k0 k1; unfold rotF; rw [if_pos (by omega)]; congr 1; omega
  have e2 : rotF f a (a + 1) i (i - 1) = f a := by
    unfold rotF; rw [if_neg (by omega), if_pos (by omega)]; congr 1; omega
  have e3 : ∀ k, i ≤ k → rotF f a (a + 1) i k = f k := by
    intro k k0; unfold rotF; rw [if_neg (by omega), if_neg (by omega)]
  intro x y x0 xy yb
  by_cases c1 : x < i - 1
  · rw [e1 x x0 c1]
    by_cases c2 : y < i - 1
    · rw [e1 y (by omega) c2]; exact hs _ _ (by omega) (by omega) (by omega)
    · by_cases c3 : y = i - 1
      · rw [c3, e2]; exact r1 _ (by omega) (by omega)
      · rw [e3 y (by omega)]; exact hs _ _ (by omega) (by omega) yb
  · by_cases c3 : x = i - 1
    · rw [c3, e2, e3 y (by omega)]; exact r2 y (by omega) yb
    · rw [e3 x (by omega), e3 y (by omega)]; exact hs _ _ (by omega) xy yb
/-- One element on the right. -/
theorem merge_right {v : Nat → Int} {f : Nat → Nat} {a m i : Nat} (hs : SortedOn v f a m) (hl : LeftOf f a m (m + 1)) (hi0 : a ≤ i) (him : i ≤ m)
    (h1 : i = a ∨ ¬ bef v (f m) (f (i - 1))) (h2 : i = m ∨ bef v (f m) (f i)) : MergeTo v f (rotF f i m (m + 1)) a (m + 1) := by
  refine ⟨?_, rot_sub f a i m (m + 1) (m + 1) hi0 him (by omega) (by omega), rot_same f a i m (m + 1) (m + 1) hi0 him (by omega) (by omega)⟩
  have r1 : ∀ k, a ≤ k → k < i → bef v (f k) (f m) := by
    intro k k0 k1
    rcases h1 with e | e
    · omega
    · have hb : bef v (f (i - 1)) (f m) := bef_total (fun c => by have := hl (i - 1) m (by omega) (by omega) (by omega) (by omega); omega) e
      by_cases c : k = i - 1
      · rw [c]; exact hb
      · exact bef_trans (hs k (i - 1) k0 (by omega) (by omega)) hb
  have r2 : ∀ k, i ≤ k → k < m → bef v (f m) (f k) := by
    intro k k0 k1
    rcases h2 with e | e
    · omega
    · by_cases c : k = i
      · rw [c]; exact e
      · exact bef_trans e (hs i k hi0 (by omega) k1)
  have e1 : ∀ k, k < i → rotF f i m (m + 1) k = f k := by
    intro k k1; unfold rotF; rw [if_neg (by omega), if_neg (by omega)]
  have e2 : rotF f i m (m + 1) i = f m := by
    unfold rotF; rw [if_pos (by omega)]; congr 1; omega
  have e3 : ∀ k, i < k → k < m + 1 → rotF f i m (m + 1) k = f (k - 1) := by
    intro k k0 k1; unfold rotF; rw [if_neg (by omega), if_pos (by omega)]; congr 1; omega
  intro x y x0 xy yb
  by_cases c1 : x < i
  · rw [e1 x c1]
    by_cases c2 : y < i
    · rw [e1 y c2]; exact hs _ _ x0 xy (by omega)
    · by_cases c3 : y = i
      · rw [c3, e2]; exact r1 _ x0 c1
      · rw [e3 y (by omega) yb]; exact hs _ _ x0 (by omega) (by omega)
  · by_cases c3 : x = i
    · rw [c3, e2, e3 y (by omega) yb]; exact r2 _ (by omega) (by omega)
    · rw [e3 x (by omega) (by omega), e3 y (by omega) yb]; exact hs _ _ (by omega) (by omega) (by omega)
/-- Behind the rotation all of [a, mid) stands before all of [mid, b). -/
structure Parted (v : Nat → Int) (g : Nat → Nat) (a s mid e b : Nat) : Prop where
  l1 : SortedOn v g a s
  l2 : SortedOn v g s mid
  r1 : SortedOn v g mid e
  r2 : SortedOn v g e b
  lc : LeftOf g a s mid
  rc : LeftOf g mid e b
  ab : ∀ i j, a ≤ i → i < mid → mid ≤ j → j < b → bef v (g i) (g j)
theorem rot_parted {v : Nat → Int} {f : Nat → Nat} {a m b s e mid : Nat} (h1 : SortedOn v f a m) (h2 : SortedOn v f m b) (hl : LeftOf f a m b) (ha : a ≤ s) (hs : s ≤ m) (he : m ≤ e) (hb : e ≤ b) (hmid : mid = s + (e - m))
    (c1 : s = m ∨ m = e ∨ bef v (f (e - 1)) (f s)) (c2 : s = a ∨ e = b ∨ ¬ bef v (f e) (f (s - 1))) : Parted v (rotF f s m e) a s mid e b := by
  have e1 : ∀ k, k < s → rotF f s m e k = f k := by intro k k1; unfold rotF; rw [if_neg (by omega), if_neg (by omega)]
  have e2 : ∀ k, s ≤ k → k < mid → rotF f s m e k = f (k + (m - s)) := by intro k k0 k1; unfold rotF; rw [if_pos (by omega)]
  have e3 : ∀ k, mid ≤ k → k < e → rotF f s m e k = f (k - (e - m)) := by intro k k0 k1; unfold rotF; rw [if_neg (by omega), if_pos (by omega)]
  have e4 : ∀ k, e ≤ k → rotF f s m e k = f k := by intro k k0; unfold rotF; rw [if_neg (by omega), if_neg (by omega)]
  have p1 : ∀ x y, m ≤ x → x < e → s ≤ y → y < m → bef v (f x) (f y) := by
    intro x y x0 x1 y0 y1
    rcases c1 with c | c | c
    · omega
    · omega
    · have hx : x = e - 1 ∨ bef v (f x) (f (e - 1)) := by
        by_cases q : x = e - 1
        · exact Or.inl q
        · exact Or.inr (h2 _ _ x0 (by omega) (by omega))
      have hy : y = s ∨ bef v (f s) (f y) := by
        by_cases q : y = s
        · exact Or.inl q
        · exact Or.inr (h1 _ _ ha (by omega) y1)
      rcases hx with rfl | hx <;> rcases hy with rfl | hy
      · exact c
      · exact bef_trans c hy
      · exact bef_trans hx c
      · exact bef_trans hx (bef_trans c hy)
  have p2 : ∀ x y, a ≤ x → x < s → e ≤ y → y < b → bef v (f x) (f y) := by
    intro x y x0 x1 y0 y1
    rcases c2 with c | c | c
    · omega
    · omega
    · have hb2 : bef v (f (s - 1)) (f e) := bef_total (fun q => by have := hl (s - 1) e (by omega) (by omega) he (by omega); omega) c
      have hx : x = s - 1 ∨ bef v (f x) (f (s - 1)) := by
        by_cases q : x = s - 1
        · exact Or.inl q
        · exact Or.inr (h1 _ _ x0 (by omega) (by omega))
      have hy : y = e ∨ bef v (f e) (f y) := by
        by_cases q : y = e
        · exact Or.inl q
        · exact Or.inr (h2 _ _ he (by omega) y1)
      rcases hx with rfl | hx <;> rcases hy with rfl | hy
      · exact hb2
      · exact bef_trans hb2 hy
      · exact bef_trans hx hb2
      · exact bef_trans hx (bef_trans hb2 hy)
  refine ⟨?_, ?_, ?_, ?_, ?_, ?_, ?_⟩
  · intro i j i0 ij jb; rw [e1 i (by omega), e1 j jb]; exact h1 _ _ i0 ij (by omega)
  · intro i j i0 ij jb; rw [e2 i i0 (by omega), e2 j (by omega) jb]; exact h2 _ _ (by omega) (by omega) (by omega)
  · intro i j i0 ij jb; rw [e3 i i0 (by omega), e3 j (by omega) jb]; exact h1 _ _ (by omega) (by omega) (by omega)
  · intro i j i0 ij jb; rw [e4 i i0, e4 j (by omega)]; exact h2 _ _ (by omega) ij jb
  · intro i j i0 i1 j0 j1; rw [e1 i i1, e2 j j0 j1]; exact hl _ _ i0 (by omega) (by omega) (by omega)
  · intro i j i0 i1 j0 j1; rw [e3 i i0 i1, e4 j j0]; exact hl _ _ (by omega) (by omega) (by omega) j1
  · intro i j i0 i1 j0 j1
    by_cases q1 : i < s
    · rw [e1 i q1]
      by_cases q2 : j < e
      · rw [e3 j j0 q2]; exact h1 _ _ i0 (by omega) (by omega)
      · rw [e4 j (by omega)]; exact p2 _ _ i0 q1 (by omega) j1
    · rw [e2 i (by omega) i1]
      by_cases q2 : j < e
      · rw [e3 j j0 q2]; exact p1 _ _ (by omega) (by omega) (by omega) (by omega)
      · rw [e4 j (by omega)]; exact h2 _ _ (by omega) (by omega) j1
/-- The two halves merged, each by itself. -/
theorem merge_halves {v : Nat → Int} {f g h k : Nat → Nat} {a s mid e b : Nat} (hp : Parted v g a s mid e b) (hsub : SubOn g f a b) (hsame : SameOut g f a b) (h0 : a ≤ mid) (h1 : mid ≤ b)
    (hm1 : MergeTo v g h a mid) (hm2 : MergeTo v h k mid b) : MergeTo v f k a b := by
  have kl : ∀ i, a ≤ i → i < mid → k i = h i := fun i i0 i1 => hm2.same i (Or.inl i1)
  have hr : ∀ i, mid ≤ i → h i = g i := fun i i0 => hm1.same i (Or.inr i0)
  refine ⟨?_, ?_, ?_⟩
  · intro i j i0 ij jb
    by_cases c1 : j < mid
    · rw [kl i i0 (by omega), kl j (by omega) c1]; exact hm1.sorted _ _ i0 ij c1
    · by_cases c2 : i < mid
      · rw [kl i i0 c2]
        obtain ⟨i', a1, a2, ea⟩ := hm1.sub i i0 c2
        obtain ⟨j', b1, b2, eb⟩ := hm2.sub j (by omega) jb
        rw [ea, eb, hr j' b1]
        exact hp.ab _ _ a1 a2 b1 b2
      · exact hm2.sorted _ _ (by omega) ij jb
  · intro i i0 i1
    by_cases c2 : i < mid
    · rw [kl i i0 c2]
      obtain ⟨i', a1, a2, ea⟩ := hm1.sub i i0 c2
      rw [ea]
      exact hsub i' a1 (by omega)
    · obtain ⟨j', b1, b2, eb⟩ := hm2.sub i (by omega) i1
      rw [eb, hr j' b1]
      exact hsub j' (by omega) b2
  · intro i hi
    rw [hm2.same i (by omega), hm1.same i (by omega), hsame i hi]
/-- A half of which one part is empty is sorted as it stands. -/
theorem merge_trivial {v : Nat → Int} {g : Nat → Nat} {a s b : Nat} (h1 : SortedOn v g a s) (h2 : SortedOn v g s b) (h : ¬ (a < s ∧ s < b)) (hs : a ≤ s) (hb : s ≤ b) : MergeTo v g g a b := by
  refine ⟨?_, fun k k0 k1 => ⟨k, k0, k1, rfl⟩, fun k _ => rfl⟩
  by_cases c : a = s
  · subst c; exact h2
  · have : s = b := by omega
    subst this; exact h1
theorem Parted.right {v : Nat → Int} {g h : Nat → Nat} {a s mid e b : Nat} (hp : Parted v g a s mid e b) (hm : MergeTo v g h a mid) (he : mid ≤ e) : SortedOn v h mid e ∧ SortedOn v h e b ∧ LeftOf h mid e b := by
  have hr : ∀ i, mid ≤ i → h i = g i := fun i i0 => hm.same i (Or.inr i0)
  refine ⟨fun i j i0 ij jb => ?_, fun i j i0 ij jb => ?_, fun i j i0 i1 j0 j1 => ?_⟩
  · rw [hr i i0, hr j (by omega)]; exact hp.r1 _ _ i0 ij jb
  · rw [hr i (by omega), hr j (by omega)]; exact hp.r2 _ _ i0 ij jb
  · rw [hr i i0, hr j (by omega)]; exact hp.rc _ _ i0 i1 j0 j1
end Go.Proofs.YtjhfbnndapopgaaDoor.WM

/- slices.swapRangeCmpFunc at a row of places. -/
namespace Go.Proofs.YtjhfbnndapopgaaDoor
open Go Go.RowKit Go.Lib Go.Sort WM

/-- A place among m + 1 numbers, as a value. -/
def encF (m : Nat) (i : Fin (m + 1)) : Value := .int .i64 (i.val : Int)
/-- The places of a row. -/
def fOf {m : Nat} (d : Array (Fin (m + 1))) : Nat → Nat := fun k => (d[k]!).val
theorem fOf_swp {m : Nat} (d : Array (Fin (m + 1))) (i j : Nat) (hi : i < d.size) (hj : j < d.size) : fOf (swp d i j) = swp1 (fOf d) i j := by
  funext k
  unfold fOf swp1
  rw [swp_get d hi hj k]
  by_cases c1 : k = i
  · subst c1
    by_cases c2 : k = j
    · subst c2; simp
    · simp [c2]
  · by_cases c2 : k = j
    · subst c2; simp [c1]
    · simp [c1, c2]

set_option maxHeartbeats 4000000 in
set_option maxRecDepth 1000000 in
theorem swapRange (m blk cap a b n g : Nat) (cb : Array Value) (d : Array (Fin (m + 1))) (w : World) (hH : Holds (encF m) w blk 0 d) (hab : a + n ≤ b) (hb : b + n ≤ d.size) (hsz : d.size ≤ 64) :
    Calls Tryd.prog 112 #[.slice (some ⟨blk, 0, none⟩) d.size cap, .int .i64 a, .int .i64 b, .int .i64 n, .func (.func g) #[] cb] w fun e w' =>
      e = .returned (.tuple #[]) ∧ ∃ q d', d'.size = d.size ∧ fOf d' = swF (fOf d) a b n ∧ w' = (putRow (encF m) w blk 0 d').drewN q := by
  have HST : Hid (w = (putRow (encF m) w blk 0 d).drewN 0) := (putRow_self (encF m) w blk 0 d hH).symm
  have HH : Hid (Holds (encF m) w blk 0 d) := hH
  clear hH
  have mixed : Tryd.prog.follows Departure.mixedOrders = true := by kernel_rfl
  go_enter Tryd.func112, Tryd.ntmps112
  go_wp2_with fail
  go_loopg [10] n (fun g1 vi wr => ∃ (i q : Nat) (dk : Array (Fin (m + 1))), vi = .int .i64 i ∧ i ≤ n ∧ n - i ≤ g1 ∧ dk.size = d.size ∧ wr = (putRow (encF m) w blk 0 dk).drewN q ∧ Hid (fOf dk = swF (fOf d) a b i))
  case atStart => exact ⟨0, 0, d, by go_num, by omega, by omega, rfl, HST.out, (by show _ = _; rw [swF_zero])⟩
  case round =>
    obtain ⟨i, q, dk, rfl, hin, hg1, hsk, rfl, HO⟩ := hrel
    by_cases hlt : i < n
    · have hltz : (i : Int) < (n : Int) := by omega
      have hHj := holds_putRow (encF m) w blk 0 d dk HH.out hsk
      obtain ⟨pa, hpa⟩ : ∃ x, x = a + i := ⟨_, rfl⟩
      obtain ⟨pb, hpb⟩ : ∃ x, x = b + i := ⟨_, rfl⟩
      obtain ⟨ca, fa⟩ := hHj pa (by omega)
      obtain ⟨cb', fb⟩ := hHj pb (by omega)
      have ea : (a : Int) + (i : Int) = (pa : Int) := by omega
      have eb : (b : Int) + (i : Int) = (pb : Int) := by omega
      have la : (pa : Int) < (d.size : Int) := by omega
      have lb : (pb : Int) < (d.size : Int) := by omega
      have ln : n ≤ 64 := by omega
      rw [Nat.zero_add] at ca cb' fa fb
      have ca' : ((putRow (encF m) w blk 0 dk).drewN q).cell? ⟨blk, pa, none⟩ = some (encF m dk[pa]!) := ca
      have cb2 : ((putRow (encF m) w blk 0 dk).drewN q).cell? ⟨blk, pb, none⟩ = some (encF m dk[pb]!) := cb'
      have fa' : ((putRow (encF m) w blk 0 dk).drewN q).frozen? ⟨blk, pa, none⟩ = false := fa
      have fb' : ((putRow (encF m) w blk 0 dk).drewN q).frozen? ⟨blk, pb, none⟩ = false := fb
      obtain ⟨va, hva⟩ : ∃ x, encF m dk[pa]! = x := ⟨_, rfl⟩
      obtain ⟨vb, hvb⟩ : ∃ x, encF m dk[pb]! = x := ⟨_, rfl⟩
      rw [hva] at ca'
      rw [hvb] at cb2
      have HVA := Lib.hid hva
      have HVB := Lib.hid hvb
      have PA : Hid (pa = a + i) := hpa
      have PB : Hid (pb = b + i) := hpb
      have SK : Hid (dk.size = d.size) := hsk
      obtain ⟨iva, hia⟩ : ∃ x : Int, va = .int .i64 x := ⟨_, HVA.out.symm⟩
      obtain ⟨ivb, hib⟩ : ∃ x : Int, vb = .int .i64 x := ⟨_, HVB.out.symm⟩
      subst hia hib
      clear hHj ca cb' fa fb hva hvb hpa hpb hsk
      generalize hwq : (putRow (encF m) w blk 0 dk).drewN q = wq at ca' cb2 fa' fb' ⊢
      have HW : Hid ((putRow (encF m) w blk 0 dk).drewN q = wq) := hwq
      clear hwq
      go_wp2_with fail
      go_big_region_o
      all_goals go_wp2
      go_roundg (n - (i + 1))
      case measure => omega
      case rel =>
        refine ⟨i + 1, q + 1, swp dk pa pb, by go_num, by omega, by omega, by rw [size_swp]; exact SK.out, ?_, (show _ = _ from ?_)⟩
        · have hs := SK.out
          have e := swap_worldC (encF m) w blk 0 dk q pa pb (by omega) (by omega)
          rw [HVA.out, HVB.out, HW.out, Nat.zero_add, Nat.zero_add] at e
          exact e
        · have hs := SK.out
          have h1 := PA.out
          have h2 := PB.out
          rw [fOf_swp dk pa pb (by omega) (by omega), HO.out, swF_succ _ _ _ _ (by omega), h1, h2]
    · have hltz : ¬ (i : Int) < (n : Int) := by omega
      go_wp2
      have : i = n := by omega
      subst this
      go_end0
      exact ⟨rfl, q, dk, hsk, HO.out, rfl⟩
end Go.Proofs.YtjhfbnndapopgaaDoor

/- slices.rotateCmpFunc at a row of places. -/
namespace Go.Proofs.YtjhfbnndapopgaaDoor
open Go Go.RowKit Go.Lib Go.Sort WM

/-- The world holds the row dk in place of what w holds. -/
def Rw (m : Nat) (w : World) (blk : Nat) (d0 dk : Array (Fin (m + 1))) (wr : World) : Prop := dk.size = d0.size ∧ ∃ q, wr = (putRow (encF m) w blk 0 dk).drewN q
theorem Rw.start {m : Nat} {w : World} {blk : Nat} {d0 : Array (Fin (m + 1))} (h : Holds (encF m) w blk 0 d0) : Rw m w blk d0 d0 w := ⟨rfl, 0, (putRow_self (encF m) w blk 0 d0 h).symm⟩
theorem Rw.holds {m : Nat} {w wr : World} {blk : Nat} {d0 dk : Array (Fin (m + 1))} (h : Holds (encF m) w blk 0 d0) (r : Rw m w blk d0 dk wr) : Holds (encF m) wr blk 0 dk := by
  obtain ⟨hs, q, rfl⟩ := r
  exact holds_putRow (encF m) w blk 0 d0 dk h hs
theorem Rw.step {m : Nat} {w wr : World} {blk : Nat} {d0 dk d' : Array (Fin (m + 1))} (r : Rw m w blk d0 dk wr) (hs : d'.size = dk.size) (q : Nat) : Rw m w blk d0 d' ((putRow (encF m) wr blk 0 d').drewN q) := by
  obtain ⟨hk, p, rfl⟩ := r
  refine ⟨by rw [hs, hk], p + q, ?_⟩
  have e : putRow (encF m) ((putRow (encF m) w blk 0 dk).drewN p) blk 0 d' = (putRow (encF m) w blk 0 d').drewN p := by
    have : putRow (encF m) ((putRow (encF m) w blk 0 dk).drewN p) blk 0 d' = (putRow (encF m) (putRow (encF m) w blk 0 dk) blk 0 d').drewN p := rfl
    rw [this, putRow_putRow _ _ _ _ _ _ hs]
  rw [e, World.drewN_drewN]
theorem Rw.draw {m : Nat} {w wr : World} {blk : Nat} {d0 dk : Array (Fin (m + 1))} (r : Rw m w blk d0 dk wr) (q : Nat) : Rw m w blk d0 dk (wr.drewN q) := by
  obtain ⟨hk, p, rfl⟩ := r
  exact ⟨hk, p + q, by rw [World.drewN_drewN]⟩
theorem Rw.swap {m : Nat} {w wr : World} {blk : Nat} {d0 dk : Array (Fin (m + 1))} (r : Rw m w blk d0 dk wr) (i j : Nat) (hi : i < dk.size) (hj : j < dk.size) :
    Rw m w blk d0 (swp dk i j) (((wr.setCell ⟨blk, i, none⟩ (encF m dk[j]!)).setCell ⟨blk, j, none⟩ (encF m dk[i]!)).drew) := by
  obtain ⟨hk, p, rfl⟩ := r
  refine ⟨by rw [size_swp]; exact hk, p + 1, ?_⟩
  have e := swap_worldC (encF m) w blk 0 dk p i j hi hj
  rw [Nat.zero_add, Nat.zero_add] at e
  exact e

theorem swap_rw {m : Nat} {w wr : World} {blk : Nat} {d0 dk : Array (Fin (m + 1))} (hH : Holds (encF m) w blk 0 d0) (hsz : d0.size ≤ 64) (r : Rw m w blk d0 dk wr) (cap a b n g : Nat) (cb : Array Value) (hab : a + n ≤ b) (hb : b + n ≤ d0.size) :
    Calls Tryd.prog 112 #[.slice (some ⟨blk, 0, none⟩) d0.size cap, .int .i64 a, .int .i64 b, .int .i64 n, .func (.func g) #[] cb] wr fun e w' =>
      e = .returned (.tuple #[]) ∧ ∃ d', fOf d' = swF (fOf dk) a b n ∧ Rw m w blk d0 d' w' := by
  have hs := r.1
  have S := swapRange m blk cap a b n g cb dk wr (r.holds hH) hab (by omega) (by omega)
  rw [hs] at S
  refine S.mono ?_
  rintro e w' ⟨rfl, q, d', s1, s2, rfl⟩
  exact ⟨rfl, d', s2, r.step (by rw [s1, hs]) q⟩

set_option maxHeartbeats 4000000 in
set_option maxRecDepth 1000000 in
theorem rotate_rw {m : Nat} {w wr : World} {blk : Nat} {d0 dk : Array (Fin (m + 1))} (hH : Holds (encF m) w blk 0 d0) (hsz : d0.size ≤ 64) (r : Rw m w blk d0 dk wr) (cap a M b g : Nat) (cb : Array Value) (h1 : a < M) (h2 : M < b) (hb : b ≤ d0.size) :
    Calls Tryd.prog 105 #[.slice (some ⟨blk, 0, none⟩) d0.size cap, .int .i64 a, .int .i64 M, .int .i64 b, .func (.func g) #[] cb] wr fun e w' =>
      e = .returned (.tuple #[]) ∧ ∃ d', fOf d' = rotF (fOf dk) a M b ∧ Rw m w blk d0 d' w' := by
  have HS := fun (dk : Array (Fin (m + 1))) wr (r : Rw m w blk d0 dk wr) a b n => swap_rw hH hsz r cap a b n g cb
  have HS := Lib.hid HS
  have R0 : Hid (Rw m w blk d0 dk wr) := r
  obtain ⟨sz, hszN⟩ : ∃ x, d0.size = x := ⟨_, rfl⟩
  have HSZ : Hid (d0.size = sz) := hszN
  rw [hszN] at hsz hb ⊢
  clear r hH hszN
  obtain ⟨i0, hi0⟩ : ∃ x, x = M - a := ⟨_, rfl⟩
  obtain ⟨j0, hj0⟩ : ∃ x, x = b - M := ⟨_, rfl⟩
  have ei : (M : Int) - (a : Int) = (i0 : Int) := by omega
  have ej : (b : Int) - (M : Int) = (j0 : Int) := by omega
  go_enter Tryd.func105, Tryd.ntmps105
  go_wp2_with fail
  go_loopg [10, 11] (i0 + j0) (fun g1 vi vj wr2 => ∃ (i j : Nat) (dk2 : Array (Fin (m + 1))), vi = .int .i64 i ∧ vj = .int .i64 j ∧ 0 < i ∧ 0 < j ∧ i ≤ M ∧ M + j ≤ sz ∧ i + j ≤ g1 ∧ Hid (Rw m w blk d0 dk2 wr2) ∧ Hid (rotF (fOf dk2) (M - i) M (M + j) = rotF (fOf dk) a M b))
  case atStart => exact ⟨i0, j0, dk, by go_num, by go_num, by omega, by omega, by omega, by omega, Nat.le_refl _, R0, (by show _ = _; rw [show M - i0 = a by omega, show M + j0 = b by omega])⟩
  case round =>
    obtain ⟨i, j, dk2, rfl, rfl, hi, hj, hiM, hjs, hg1, HR, HO⟩ := hrel
    clear R0
    have hs := HSZ.out
    have C := HS.out dk2 _ HR.out
    rw [hs] at C
    clear hs
    obtain ⟨x, hx⟩ : ∃ x, x = M - i := ⟨_, rfl⟩
    have ex : (M : Int) - (i : Int) = (x : Int) := by omega
    by_cases hgt : j < i
    · have C2 := C x M j (by omega) (by omega)
      have C2 := Lib.hid C2
      clear C
      obtain ⟨i', hi'⟩ : ∃ x, x = i - j := ⟨_, rfl⟩
      have ei' : (i : Int) - (j : Int) = (i' : Int) := by omega
      have hne : ¬ (i : Int) = (j : Int) := by omega
      have hgz : (j : Int) < (i : Int) := by omega
      have hHI := Lib.hid hi'
      have hHX := Lib.hid hx
      clear hi' hx
      go_wp2_with fail
      refine C2.out.mono ?_
      rintro e w2 ⟨rfl, d2, f2, r2⟩
      have F2 := Lib.hid f2
      have R2 := Lib.hid r2
      clear f2 r2
      go_wp2_with fail
      have hx := hHX.out
      have hi' := hHI.out
      go_roundg (i' + j)
      case measure => omega
      case rel =>
        refine ⟨i', j, d2, by go_num, by go_num, by omega, hj, by omega, hjs, Nat.le_refl _, R2, (show _ = _ from ?_)⟩
        rw [F2.out, ← HO.out, hx, show M - i' = M - i + j by omega, rot_gt _ _ _ _ hiM hgt]
    · by_cases heq : i = j
      · subst heq
        have C2 := C x M i (by omega) (by omega)
        have C2 := Lib.hid C2
        clear C
        have hHX := Lib.hid hx
        clear hx
        go_wp2_with fail
        refine C2.out.mono ?_
        rintro e w2 ⟨rfl, d2, f2, r2⟩
        have F2 := Lib.hid f2
        have R2 := Lib.hid r2
        clear f2 r2
        go_wp2_with fail
        go_end0
        refine ⟨rfl, d2, ?_, R2.out⟩
        rw [F2.out, ← HO.out, hHX.out, rot_eq _ _ _ hiM]
      · obtain ⟨y, hy⟩ : ∃ x, x = M + j - i := ⟨_, rfl⟩
        have C2 := C x y i (by omega) (by omega)
        have C2 := Lib.hid C2
        clear C
        obtain ⟨s, hs⟩ : ∃ x, x = M + j := ⟨_, rfl⟩
        have es : (M : Int) + (j : Int) = (s : Int) := by omega
        have ey : (s : Int) - (i : Int) = (y : Int) := by omega
        obtain ⟨j', hj'⟩ : ∃ x, x = j - i := ⟨_, rfl⟩
        have ej' : (j : Int) - (i : Int) = (j' : Int) := by omega
        have hne : ¬ (i : Int) = (j : Int) := by omega
        have hgz : ¬ (j : Int) < (i : Int) := by omega
        have bs : s ≤ 64 := by omega
        have hHS := Lib.hid hs
        have hHJ := Lib.hid hj'
        have hHX := Lib.hid hx
        have hHY := Lib.hid hy
        clear hj' hx hy hs
        go_wp2_with fail
        refine C2.out.mono ?_
        rintro e w2 ⟨rfl, d2, f2, r2⟩
        have F2 := Lib.hid f2
        have R2 := Lib.hid r2
        clear f2 r2
        go_wp2_with fail
        have hx := hHX.out
        have hj' := hHJ.out
        have hy := hHY.out
        go_roundg (i + j')
        case measure => omega
        case rel =>
          refine ⟨i, j', d2, by go_num, by go_num, hi, by omega, hiM, by omega, Nat.le_refl _, R2, (show _ = _ from ?_)⟩
          rw [F2.out, ← HO.out, hx, hy, hj', rot_lt _ _ _ _ hiM (by omega)]
end Go.Proofs.YtjhfbnndapopgaaDoor

/- slices.symMergeCmpFunc where one part has one element. -/
namespace Go.Proofs.YtjhfbnndapopgaaDoor
open Go Go.RowKit Go.Lib Go.Sort WM

/-- The comparison reads: whatever the row holds. -/
structure CmpOn (m : Nat) (w : World) (blk : Nat) (d0 : Array (Fin (m + 1))) (g : Nat) (cb : Array Value) (v : Nat → Int) (cf : Fin (m + 1) → Fin (m + 1) → Int) : Prop where
  eg : ∀ args w, (callFunc g args).run Tryd.prog w = .ok (.enter g args) w
  lt : ∀ x y : Fin (m + 1), cf x y < 0 ↔ v y.val < v x.val
  run : ∀ dk wr, Rw m w blk d0 dk wr → ∀ x y, Calls Tryd.prog g (#[encF m x, encF m y] ++ cb) wr fun e w' => e = .returned (.int .i64 (cf x y)) ∧ ∃ q, w' = wr.drewN q

/-- What the walk of one comparison wants: the two cells, and the call at any draw. -/
theorem CmpOn.at2 {m : Nat} {w wr : World} {blk : Nat} {d0 dk : Array (Fin (m + 1))} {g : Nat} {cb : Array Value} {v : Nat → Int} {cf : Fin (m + 1) → Fin (m + 1) → Int} (C : CmpOn m w blk d0 g cb v cf) (hH : Holds (encF m) w blk 0 d0) (r : Rw m w blk d0 dk wr)
    (p q : Nat) (hp : p < d0.size) (hq : q < d0.size) : ∃ ip iq c : Int, wr.cell? ⟨blk, p, none⟩ = some (.int .i64 ip) ∧ wr.cell? ⟨blk, q, none⟩ = some (.int .i64 iq) ∧
      (∀ n, Calls Tryd.prog g (#[.int .i64 ip, .int .i64 iq] ++ cb) (wr.drewN n) fun e w' => e = .returned (.int .i64 c) ∧ ∃ q, w' = (wr.drewN n).drewN q) ∧ (c < 0 ↔ v (fOf dk q) < v (fOf dk p)) := by
  have hs := r.1
  have h1 := (r.holds hH p (by omega)).1
  have h2 := (r.holds hH q (by omega)).1
  rw [Nat.zero_add] at h1 h2
  exact ⟨_, _, cf dk[p]! dk[q]!, h1, h2, fun n => C.run dk _ (r.draw n) _ _, C.lt _ _⟩
/-- What the walk of one exchange wants. -/
theorem Rw.at2 {m : Nat} {w wr : World} {blk : Nat} {d0 dk : Array (Fin (m + 1))} (hH : Holds (encF m) w blk 0 d0) (r : Rw m w blk d0 dk wr)
    (p q : Nat) (hp : p < d0.size) (hq : q < d0.size) : ∃ ip iq : Int, wr.cell? ⟨blk, p, none⟩ = some (.int .i64 ip) ∧ wr.cell? ⟨blk, q, none⟩ = some (.int .i64 iq) ∧ wr.frozen? ⟨blk, p, none⟩ = false ∧ wr.frozen? ⟨blk, q, none⟩ = false ∧
      ∃ d', fOf d' = swp1 (fOf dk) p q ∧ Rw m w blk d0 d' (((wr.setCell ⟨blk, p, none⟩ (.int .i64 iq)).setCell ⟨blk, q, none⟩ (.int .i64 ip)).drew) := by
  have hs := r.1
  have h1 := r.holds hH p (by omega)
  have h2 := r.holds hH q (by omega)
  rw [Nat.zero_add] at h1 h2
  exact ⟨_, _, h1.1, h2.1, h1.2, h2.2, swp dk p q, fOf_swp dk p q (by omega) (by omega), r.swap p q (by omega) (by omega)⟩

set_option maxHeartbeats 4000000 in
set_option maxRecDepth 1000000 in
theorem sym_left {m : Nat} {w wr : World} {blk : Nat} {d0 dk : Array (Fin (m + 1))} {g : Nat} {cb : Array Value} {v : Nat → Int} {cf : Fin (m + 1) → Fin (m + 1) → Int} (C : CmpOn m w blk d0 g cb v cf) (hH : Holds (encF m) w blk 0 d0) (hsz : d0.size ≤ 64) (r : Rw m w blk d0 dk wr)
    (cap a M b : Nat) (hM : M = a + 1) (h2 : M < b) (hb : b ≤ d0.size) (hs : SortedOn v (fOf dk) M b) (hl : LeftOf (fOf dk) a M b) :
    Calls Tryd.prog 97 #[.slice (some ⟨blk, 0, none⟩) d0.size cap, .int .i64 a, .int .i64 M, .int .i64 b, .func (.func g) #[] cb] wr fun e w' =>
      e = .returned (.tuple #[]) ∧ ∃ d', MergeTo v (fOf dk) (fOf d') a b ∧ Rw m w blk d0 d' w' := by
  have eg := C.eg
  have HC := fun (dk : Array (Fin (m + 1))) wr (r : Rw m w blk d0 dk wr) p q => C.at2 hH r p q
  have HW := fun (dk : Array (Fin (m + 1))) wr (r : Rw m w blk d0 dk wr) p q => r.at2 hH p q
  have HC := Lib.hid HC
  have HW := Lib.hid HW
  have R0 : Hid (Rw m w blk d0 dk wr) := r
  obtain ⟨sz, hszN⟩ : ∃ x, d0.size = x := ⟨_, rfl⟩
  have HSZ : Hid (d0.size = sz) := hszN
  rw [hszN] at hsz hb ⊢
  have HS := Lib.hid hs
  have HL := Lib.hid hl
  have HM := Lib.hid hM
  have mixed : Tryd.prog.follows Departure.mixedOrders = true := by kernel_rfl
  have em : (M : Int) - (a : Int) = 1 := by omega
  have haM : a < M := by omega
  clear r hH hszN hs hl hM C
  go_enter Tryd.func97, Tryd.ntmps97
  go_wp2_with fail
  go_loopg [10, 11] (b - M) (fun g1 vi vj wr2 => ∃ (i j : Nat), vi = .int .i64 i ∧ vj = .int .i64 j ∧ M ≤ i ∧ i ≤ j ∧ j ≤ b ∧ j - i ≤ g1 ∧ Hid (Rw m w blk d0 dk wr2) ∧ Hid (i = M ∨ bef v (fOf dk (i - 1)) (fOf dk a)) ∧ Hid (j = b ∨ ¬ bef v (fOf dk j) (fOf dk a)))
  case atStart => exact ⟨M, b, by go_num, by go_num, by omega, by omega, by omega, Nat.le_refl _, R0, Or.inl rfl, Or.inl rfl⟩
  case round =>
    obtain ⟨i, j, rfl, rfl, hMi, hij, hjb, hg1, HR, H1, H2⟩ := hrel
    clear R0
    by_cases hlt : i < j
    · obtain ⟨s, hs⟩ : ∃ x, x = i + j := ⟨_, rfl⟩
      have es : (i : Int) + (j : Int) = (s : Int) := by omega
      obtain ⟨h, hh⟩ : ∃ x, x = s / 2 := ⟨_, rfl⟩
      have eh : (s : Int) / 2 = (h : Int) := by omega
      have k1 : i ≤ h := by omega
      have k2 : h < j := by omega
      have bs : s ≤ 128 := by omega
      have hsz0 := HSZ.out
      obtain ⟨ip, iq, c, c1, c2, hc, hv⟩ := HC.out dk _ HR.out h a (by omega) (by omega)
      have lh : (h : Int) < (sz : Int) := by omega
      have la : (a : Int) < (sz : Int) := by omega
      have hltz : (i : Int) < (j : Int) := by omega
      have hcross : bef v (fOf dk h) (fOf dk a) ↔ v (fOf dk a) < v (fOf dk h) := bef_cross (HL.out a h (by omega) (by omega) (by omega) (by omega))
      have HV := Lib.hid (hv.trans hcross.symm)
      have HD := Lib.hid hs
      have HE := Lib.hid hh
      have eh1 : ∃ x : Nat, x = h + 1 := ⟨_, rfl⟩
      clear hv hs hh hsz0 hcross
      by_cases hlv : c < 0
      · go_wp2_with fail
        go_quiet_o (first | (go_at_fn g; refine Calls.quiet_of (hc _)))
        go_wp2_with fail
        go_roundg (j - (h + 1))
        case measure => omega
        case rel => exact ⟨h + 1, j, by go_num, by go_num, by omega, by omega, hjb, Nat.le_refl _, HR.out.draw _, Or.inr (HV.out.1 hlv), H2.out⟩
      · go_wp2_with fail
        go_quiet_o (first | (go_at_fn g; refine Calls.quiet_of (hc _)))
        go_wp2_with fail
        go_roundg (h - i)
        case measure => omega
        case rel => exact ⟨i, h, by go_num, by go_num, hMi, k1, by omega, Nat.le_refl _, HR.out.draw _, H1.out, Or.inr (fun x => absurd (HV.out.2 x) (by omega))⟩
    · have hji : j = i := by omega
      subst hji
      obtain ⟨i1, hi1⟩ : ∃ x, x = j - 1 := ⟨_, rfl⟩
      have ei : (j : Int) - 1 = (i1 : Int) := by omega
      have hltz : ¬ (j : Int) < (j : Int) := by omega
      have hai : a ≤ i1 := by omega
      have hi1b : i1 < sz := by omega
      have hi1b2 : i1 + 1 < sz + 1 := by omega
      have HI := Lib.hid hi1
      have HJ := Lib.hid (show i1 + 1 = j by omega)
      clear hi1
      go_wp2_with fail
      go_loopg [13] (i1 - a) (fun g1 vk wr2 => ∃ (k : Nat) (dk2 : Array (Fin (m + 1))), vk = .int .i64 k ∧ a ≤ k ∧ k ≤ i1 ∧ i1 - k ≤ g1 ∧ Hid (Rw m w blk d0 dk2 wr2) ∧ Hid (fOf dk2 = rotF (fOf dk) a (a + 1) (k + 1)))
      case atStart => exact ⟨a, dk, by go_num, Nat.le_refl _, hai, Nat.le_refl _, HR, (by show _ = _; rw [rot_none _ _ _ _ (Or.inr rfl) (by omega) (by omega)])⟩
      case round =>
        obtain ⟨k, dk2, rfl, hak, hki, hg2, HR2, HO2⟩ := hrel
        clear HR
        by_cases hk : k < i1
        · have hkz : (k : Int) < (i1 : Int) := by omega
          obtain ⟨k1, hk1⟩ : ∃ x, x = k + 1 := ⟨_, rfl⟩
          have ek : (k : Int) + 1 = (k1 : Int) := by omega
          have hsz0 := HSZ.out
          have hj := HJ.out
          obtain ⟨ip, iq, c1, c2, f1, f2, X⟩ := HW.out dk2 _ HR2.out k k1 (by omega) (by omega)
          have X := Lib.hid X
          have l1 : (k : Int) < (sz : Int) := by omega
          have l2 : (k1 : Int) < (sz : Int) := by omega
          have b1 : k1 ≤ 64 := by omega
          have HK := Lib.hid hk1
          clear hsz0 hj hk1
          go_wp2_with fail
          go_big_region_o
          all_goals go_wp2
          go_roundg (i1 - k1)
          case measure => have := HK.out; omega
          case rel =>
            obtain ⟨d', x1, x2⟩ := X.out
            have hk1 := HK.out
            refine ⟨k1, d', by go_num, by omega, by omega, Nat.le_refl _, x2, (show _ = _ from ?_)⟩
            rw [x1, HO2.out, hk1]
            exact (rot_up (fOf dk) a k hak).symm
        · have hkz : ¬ (k : Int) < (i1 : Int) := by omega
          have hke : k = i1 := by omega
          subst hke
          go_wp2_with fail
          (try simp only [Exit.inBlock, Exit.then]); refine bodyPost_ret (results_none rfl _ _ _) rfl ?_
          refine ⟨rfl, dk2, ?_, HR2.out⟩
          have hj := HJ.out
          have hM := HM.out
          have o := HO2.out
          have h1 := H1.out
          have h2' := H2.out
          rw [hj] at o
          rw [o]
          rw [hM] at h1 hMi
          refine merge_left ?_ ?_ hMi hjb h1 h2'
          · rw [← hM]; exact HS.out
          · intro x y x0 x1 y0 y1; exact HL.out x y x0 (by omega) (by omega) y1
end Go.Proofs.YtjhfbnndapopgaaDoor

/- slices.symMergeCmpFunc where the second part has one element. -/
namespace Go.Proofs.YtjhfbnndapopgaaDoor
open Go Go.RowKit Go.Lib Go.Sort WM

set_option maxHeartbeats 4000000 in
set_option maxRecDepth 1000000 in
theorem sym_right {m : Nat} {w wr : World} {blk : Nat} {d0 dk : Array (Fin (m + 1))} {g : Nat} {cb : Array Value} {v : Nat → Int} {cf : Fin (m + 1) → Fin (m + 1) → Int} (C : CmpOn m w blk d0 g cb v cf) (hH : Holds (encF m) w blk 0 d0) (hsz : d0.size ≤ 64) (r : Rw m w blk d0 dk wr)
    (cap a M b : Nat) (hM : b = M + 1) (h2 : a < M) (hn : M ≠ a + 1) (hb : b ≤ d0.size) (hs : SortedOn v (fOf dk) a M) (hl : LeftOf (fOf dk) a M b) :
    Calls Tryd.prog 97 #[.slice (some ⟨blk, 0, none⟩) d0.size cap, .int .i64 a, .int .i64 M, .int .i64 b, .func (.func g) #[] cb] wr fun e w' =>
      e = .returned (.tuple #[]) ∧ ∃ d', MergeTo v (fOf dk) (fOf d') a b ∧ Rw m w blk d0 d' w' := by
  have eg := C.eg
  have HC := fun (dk : Array (Fin (m + 1))) wr (r : Rw m w blk d0 dk wr) p q => C.at2 hH r p q
  have HW := fun (dk : Array (Fin (m + 1))) wr (r : Rw m w blk d0 dk wr) p q => r.at2 hH p q
  have HC := Lib.hid HC
  have HW := Lib.hid HW
  have R0 : Hid (Rw m w blk d0 dk wr) := r
  obtain ⟨sz, hszN⟩ : ∃ x, d0.size = x := ⟨_, rfl⟩
  have HSZ : Hid (d0.size = sz) := hszN
  rw [hszN] at hsz hb ⊢
  have HS := Lib.hid hs
  have HL := Lib.hid hl
  have HM := Lib.hid hM
  have mixed : Tryd.prog.follows Departure.mixedOrders = true := by kernel_rfl
  obtain ⟨df, hdf⟩ : ∃ x, x = M - a := ⟨_, rfl⟩
  have edf : (M : Int) - (a : Int) = (df : Int) := by omega
  have dne : ((df : Int) == 1) = false := by rw [beq_eq_false_iff_ne]; omega
  have em : (b : Int) - (M : Int) = 1 := by omega
  have hMb : M < b := by omega
  have hdb : df ≤ 64 := by omega
  clear r hH hszN hs hl hM C hn hdf
  go_enter Tryd.func97, Tryd.ntmps97
  go_wp2_with fail
  go_loopg [14, 15] (M - a) (fun g1 vi vj wr2 => ∃ (i j : Nat), vi = .int .i64 i ∧ vj = .int .i64 j ∧ a ≤ i ∧ i ≤ j ∧ j ≤ M ∧ j - i ≤ g1 ∧ Hid (Rw m w blk d0 dk wr2) ∧ Hid (i = a ∨ ¬ bef v (fOf dk M) (fOf dk (i - 1))) ∧ Hid (j = M ∨ bef v (fOf dk M) (fOf dk j)))
  case atStart => exact ⟨a, M, by go_num, by go_num, by omega, by omega, by omega, Nat.le_refl _, R0, Or.inl rfl, Or.inl rfl⟩
  case round =>
    obtain ⟨i, j, rfl, rfl, hMi, hij, hjb, hg1, HR, H1, H2⟩ := hrel
    clear R0
    by_cases hlt : i < j
    · obtain ⟨s, hs⟩ : ∃ x, x = i + j := ⟨_, rfl⟩
      have es : (i : Int) + (j : Int) = (s : Int) := by omega
      obtain ⟨h, hh⟩ : ∃ x, x = s / 2 := ⟨_, rfl⟩
      have eh : (s : Int) / 2 = (h : Int) := by omega
      have k1 : i ≤ h := by omega
      have k2 : h < j := by omega
      have bs : s ≤ 128 := by omega
      have hsz0 := HSZ.out
      obtain ⟨ip, iq, c, c1, c2, hc, hv⟩ := HC.out dk _ HR.out M h (by omega) (by omega)
      have lh : (h : Int) < (sz : Int) := by omega
      have la : (M : Int) < (sz : Int) := by omega
      have hltz : (i : Int) < (j : Int) := by omega
      have hcross : bef v (fOf dk M) (fOf dk h) ↔ v (fOf dk h) < v (fOf dk M) := bef_cross (HL.out h M (by omega) (by omega) (by omega) (by omega))
      have HV := Lib.hid (hv.trans hcross.symm)
      have HD := Lib.hid hs
      have HE := Lib.hid hh
      clear hv hs hh hsz0 hcross
      by_cases hlv : c < 0
      · go_wp2_with fail
        go_quiet_o (first | (go_at_fn g; refine Calls.quiet_of (hc _)))
        go_wp2_with fail
        go_roundg (h - i)
        case measure => omega
        case rel => exact ⟨i, h, by go_num, by go_num, hMi, k1, by omega, Nat.le_refl _, HR.out.draw _, H1.out, Or.inr (HV.out.1 hlv)⟩
      · have hdec : decide (c < 0) = false := decide_eq_false hlv
        go_wp2_with fail
        go_quiet_o (first | (go_at_fn g; refine Calls.quiet_of (hc _)))
        go_wp2_with fail
        go_roundg (j - (h + 1))
        case measure => omega
        case rel => exact ⟨h + 1, j, by go_num, by go_num, by omega, by omega, hjb, Nat.le_refl _, HR.out.draw _, Or.inr (fun x => absurd (HV.out.2 x) (by omega)), H2.out⟩
    · have hji : j = i := by omega
      subst hji
      have hltz : ¬ (j : Int) < (j : Int) := by omega
      have hMs : M < sz := by omega
      go_wp2_with fail
      go_loopg [17] (M - j) (fun g1 vk wr2 => ∃ (k : Nat) (dk2 : Array (Fin (m + 1))), vk = .int .i64 k ∧ j ≤ k ∧ k ≤ M ∧ k - j ≤ g1 ∧ Hid (Rw m w blk d0 dk2 wr2) ∧ Hid (fOf dk2 = rotF (fOf dk) k M (M + 1)))
      case atStart => exact ⟨M, dk, by go_num, hjb, Nat.le_refl _, Nat.le_refl _, HR, (by show _ = _; rw [rot_none _ _ _ _ (Or.inl rfl) (by omega) (by omega)])⟩
      case round =>
        obtain ⟨k, dk2, rfl, hak, hki, hg2, HR2, HO2⟩ := hrel
        clear HR
        by_cases hk : j < k
        · have hkz : (j : Int) < (k : Int) := by omega
          obtain ⟨k1, hk1⟩ : ∃ x, x = k - 1 := ⟨_, rfl⟩
          have ek : (k : Int) - 1 = (k1 : Int) := by omega
          have hsz0 := HSZ.out
          obtain ⟨ip, iq, c1, c2, f1, f2, X⟩ := HW.out dk2 _ HR2.out k k1 (by omega) (by omega)
          have X := Lib.hid X
          have l1 : (k : Int) < (sz : Int) := by omega
          have l2 : (k1 : Int) < (sz : Int) := by omega
          have b1 : k1 ≤ 64 := by omega
          have HK := Lib.hid (show k = k1 + 1 by omega)
          clear hsz0 hk1
          go_wp2_with fail
          go_big_region_o
          all_goals go_wp2
          go_roundg (k1 - j)
          case measure => have := HK.out; omega
          case rel =>
            obtain ⟨d', x1, x2⟩ := X.out
            have hk1 := HK.out
            refine ⟨k1, d', by go_num, by omega, by omega, Nat.le_refl _, x2, (show _ = _ from ?_)⟩
            rw [x1, HO2.out, hk1]
            exact (rot_down (fOf dk) k1 M (by omega)).symm
        · have hkz : ¬ (j : Int) < (k : Int) := by omega
          have hke : j = k := by omega
          subst hke
          go_wp2_with fail
          (try simp only [Exit.inBlock, Exit.then]); refine bodyPost_ret (results_none rfl _ _ _) rfl ?_
          refine ⟨rfl, dk2, ?_, HR2.out⟩
          have hM := HM.out
          have o := HO2.out
          have h1 := H1.out
          have h2' := H2.out
          rw [o, hM]
          refine merge_right HS.out ?_ hMi hjb h1 h2'
          rw [← hM]; exact HL.out
end Go.Proofs.YtjhfbnndapopgaaDoor

/- slices.symMergeCmpFunc, the general step, and the whole. (gen_symc.py writes this text.) -/
namespace Go.Proofs.YtjhfbnndapopgaaDoor
open Go Go.RowKit Go.Lib Go.Sort WM

/-- What symMerge promises of parts that span no more than n. -/
def SymUp (m : Nat) (w : World) (blk : Nat) (d0 : Array (Fin (m + 1))) (g : Nat) (cb : Array Value) (v : Nat → Int) (cap n : Nat) : Prop :=
  ∀ (dk : Array (Fin (m + 1))) (wr : World), Rw m w blk d0 dk wr → ∀ a M b : Nat, b - a ≤ n → a < M → M < b → b ≤ d0.size → SortedOn v (fOf dk) a M → SortedOn v (fOf dk) M b → LeftOf (fOf dk) a M b →
    Calls Tryd.prog 97 #[.slice (some ⟨blk, 0, none⟩) d0.size cap, .int .i64 a, .int .i64 M, .int .i64 b, .func (.func g) #[] cb] wr fun e w' =>
      e = .returned (.tuple #[]) ∧ ∃ d', MergeTo v (fOf dk) (fOf d') a b ∧ Rw m w blk d0 d' w'
end Go.Proofs.YtjhfbnndapopgaaDoor

/- slices.symMergeCmpFunc, the general step, and the whole. (gen_symc.py writes this text.) -/
namespace Go.Proofs.YtjhfbnndapopgaaDoor
open Go Go.RowKit Go.Lib Go.Sort WM


set_option maxHeartbeats 8000000 in
set_option maxRecDepth 1000000 in
theorem sym_midA {m : Nat} {w wr : World} {blk : Nat} {d0 dk : Array (Fin (m + 1))} {g : Nat} {cb : Array Value} {v : Nat → Int} {cf : Fin (m + 1) → Fin (m + 1) → Int} (C : CmpOn m w blk d0 g cb v cf) (hH : Holds (encF m) w blk 0 d0) (hsz : d0.size ≤ 64) (r : Rw m w blk d0 dk wr)
    (cap N a M b : Nat) (IH : SymUp m w blk d0 g cb v cap N) (hN : b - a ≤ N + 1) (h1 : a + 1 < M) (h2 : M + 1 < b) (hb : b ≤ d0.size) (hs1 : SortedOn v (fOf dk) a M) (hs2 : SortedOn v (fOf dk) M b) (hl : LeftOf (fOf dk) a M b)
    (mid : Nat) (hmid : mid = (a + b) / 2) (hcase : mid < M) :
    Calls Tryd.prog 97 #[.slice (some ⟨blk, 0, none⟩) d0.size cap, .int .i64 a, .int .i64 M, .int .i64 b, .func (.func g) #[] cb] wr fun e w' =>
      e = .returned (.tuple #[]) ∧ ∃ d', MergeTo v (fOf dk) (fOf d') a b ∧ Rw m w blk d0 d' w' := by
  have eg := C.eg
  have HC := fun (dk : Array (Fin (m + 1))) wr (r : Rw m w blk d0 dk wr) p q => C.at2 hH r p q
  have HR := fun (dk : Array (Fin (m + 1))) wr (r : Rw m w blk d0 dk wr) a M b => rotate_rw hH hsz r cap a M b g cb
  have HC := Lib.hid HC
  have HRT := Lib.hid HR
  have HIH : Hid (SymUp m w blk d0 g cb v cap N) := IH
  have R0 : Hid (Rw m w blk d0 dk wr) := r
  obtain ⟨sz, hszN⟩ : ∃ x, d0.size = x := ⟨_, rfl⟩
  have HSZ : Hid (d0.size = sz) := hszN
  rw [hszN] at hsz hb ⊢
  have HS1 := Lib.hid hs1
  have HS2 := Lib.hid hs2
  have HL := Lib.hid hl
  have mixed : Tryd.prog.follows Departure.mixedOrders = true := by kernel_rfl
  obtain ⟨df, hdf⟩ : ∃ x, x = M - a := ⟨_, rfl⟩
  have edf : (M : Int) - (a : Int) = (df : Int) := by omega
  have dne : ((df : Int) == 1) = false := by rw [beq_eq_false_iff_ne]; omega
  obtain ⟨dg, hdg⟩ : ∃ x, x = b - M := ⟨_, rfl⟩
  have edg : (b : Int) - (M : Int) = (dg : Int) := by omega
  have dge : ((dg : Int) == 1) = false := by rw [beq_eq_false_iff_ne]; omega
  have hdb : df ≤ 64 := by omega
  have hdb2 : dg ≤ 64 := by omega
  obtain ⟨ab, hab⟩ : ∃ x, x = a + b := ⟨_, rfl⟩
  have eab : (a : Int) + (b : Int) = (ab : Int) := by omega
  have emid : (ab : Int) / 2 = (mid : Int) := by omega
  have bab : ab ≤ 128 := by omega
  obtain ⟨nn, hnn⟩ : ∃ x, x = mid + M := ⟨_, rfl⟩
  have enn : (mid : Int) + (M : Int) = (nn : Int) := by omega
  have bnn : nn ≤ 128 := by omega
  obtain ⟨s0, hs0⟩ : ∃ x, x = nn - b := ⟨_, rfl⟩
  have es0 : (nn : Int) - (b : Int) = (s0 : Int) := by omega
  have hgt : (mid : Int) < (M : Int) := by omega

  obtain ⟨pp, hpp⟩ : ∃ x, x = nn - 1 := ⟨_, rfl⟩
  have epp : (nn : Int) - 1 = (pp : Int) := by omega
  have q1 : a ≤ s0 := by omega
  have q2 : s0 ≤ mid := by omega
  have q3 : mid ≤ M := by omega
  have q4 : mid ≤ mid := by omega
  have q5 : nn ≤ s0 + b := by omega
  have AR := Lib.hid (show nn = mid + M ∧ pp + 1 = nn ∧ (mid = M ∨ mid = mid) ∧ (s0 = a ∨ nn = s0 + b) ∧ a < mid ∧ mid + 1 < b ∧ mid = (a + b) / 2 ∧ a + 1 < M ∧ M + 1 < b ∧ b - a ≤ N + 1 by omega)
  clear r hH hszN hs1 hs2 hl C hdf hdg hab hnn hs0 hpp hmid IH hN h1 h2 HR
  go_enter Tryd.func97, Tryd.ntmps97
  go_wp2_with fail
  go_loopg [20, 21] (mid - s0) (fun g1 vi vj wr2 => ∃ (i j : Nat), vi = .int .i64 i ∧ vj = .int .i64 j ∧ s0 ≤ i ∧ i ≤ j ∧ j ≤ mid ∧ j - i ≤ g1 ∧ Hid (Rw m w blk d0 dk wr2) ∧ Hid (i = s0 ∨ ¬ bef v (fOf dk (pp - (i - 1))) (fOf dk (i - 1))) ∧ Hid (j = mid ∨ bef v (fOf dk (pp - j)) (fOf dk j)))
  case atStart => exact ⟨s0, mid, by go_num, by go_num, Nat.le_refl _, q2, Nat.le_refl _, Nat.le_refl _, R0, Or.inl rfl, Or.inl rfl⟩
  case round =>
    obtain ⟨i, j, rfl, rfl, hMi, hij, hjb, hg1, HR, H1, H2⟩ := hrel
    clear R0
    by_cases hlt : i < j
    · have ar := AR.out
      obtain ⟨s, hs⟩ : ∃ x, x = i + j := ⟨_, rfl⟩
      have es : (i : Int) + (j : Int) = (s : Int) := by omega
      obtain ⟨h, hh⟩ : ∃ x, x = s / 2 := ⟨_, rfl⟩
      have eh : (s : Int) / 2 = (h : Int) := by omega
      have k1 : i ≤ h := by omega
      have k2 : h < j := by omega
      have bs : s ≤ 128 := by omega
      have bp : pp ≤ 128 := by omega
      have hsz0 := HSZ.out
      obtain ⟨x, hx⟩ : ∃ x, x = pp - h := ⟨_, rfl⟩
      have ex : (pp : Int) - (h : Int) = (x : Int) := by omega
      have hwp : IntKind.i64.wrap (x : Int) = (x : Int) := by rw [IntKind.wrap_i64]; omega
      have xM : M ≤ x := by omega
      have xb : x < b := by omega
      obtain ⟨ip, iq, c, c1, c2, hc, hv⟩ := HC.out dk _ HR.out x h (by omega) (by omega)
      have lh : (h : Int) < (sz : Int) := by omega
      have la : (x : Int) < (sz : Int) := by omega
      have hltz : (i : Int) < (j : Int) := by omega
      have hcross : bef v (fOf dk x) (fOf dk h) ↔ v (fOf dk h) < v (fOf dk x) := bef_cross (HL.out h x (by omega) (by omega) (by omega) (by omega))
      have HV := Lib.hid (hv.trans hcross.symm)
      have HD := Lib.hid hs
      have HE := Lib.hid hh
      have HX := Lib.hid hx
      clear hv hs hh hsz0 hcross ar hx
      by_cases hlv : c < 0
      · go_wp2_with fail
        go_quiet_o (first | (go_at_fn g; refine Calls.quiet_of (hc _)))
        go_wp2_with fail
        go_roundg (h - i)
        case measure => omega
        case rel => exact ⟨i, h, by go_num, by go_num, hMi, k1, by omega, Nat.le_refl _, HR.out.draw _, H1.out, Or.inr (by have := HX.out; rw [← this]; exact HV.out.1 hlv)⟩
      · have hdec : decide (c < 0) = false := decide_eq_false hlv
        go_wp2_with fail
        go_quiet_o (first | (go_at_fn g; refine Calls.quiet_of (hc _)))
        go_wp2_with fail
        go_roundg (j - (h + 1))
        case measure => omega
        case rel => exact ⟨h + 1, j, by go_num, by go_num, by omega, by omega, hjb, Nat.le_refl _, HR.out.draw _, Or.inr (by have := HX.out; rw [show h + 1 - 1 = h by omega, ← this]; exact fun x => absurd (HV.out.2 x) (by omega)), H2.out⟩
    · have hji : i = j := by omega
      subst hji
      have ar := AR.out
      have hltz : ¬ (i : Int) < (i : Int) := by omega
      obtain ⟨e, he⟩ : ∃ x, x = nn - i := ⟨_, rfl⟩
      have ee : (nn : Int) - (i : Int) = (e : Int) := by omega
      have PG : ∀ d1 : Array (Fin (m + 1)), fOf d1 = rotF (fOf dk) i M e → Parted v (fOf d1) a i mid e b := by
        intro d1 h
        rw [h]
        refine rot_parted HS1.out HS2.out HL.out (by omega) (by omega) (by omega) (by omega) (by omega) ?_ ?_
        · rcases H2.out with q | q
          · omega
          · rw [show pp - i = e - 1 by omega] at q; exact Or.inr (Or.inr q)
        · by_cases q0 : i = s0
          · omega
          · rcases H1.out with q | q
            · omega
            · rw [show pp - (i - 1) = e by omega] at q; exact Or.inr (Or.inr q)
      have FIN : ∀ d1 d2 d3 : Array (Fin (m + 1)), fOf d1 = rotF (fOf dk) i M e → MergeTo v (fOf d1) (fOf d2) a mid → MergeTo v (fOf d2) (fOf d3) mid b → MergeTo v (fOf dk) (fOf d3) a b := by
        intro d1 d2 d3 h m1 m2
        refine merge_halves (PG d1 h) ?_ ?_ (by omega) (by omega) m1 m2
        · rw [h]; exact rot_sub _ _ _ _ _ _ (by omega) (by omega) (by omega) (by omega)
        · rw [h]; exact rot_same _ _ _ _ _ _ (by omega) (by omega) (by omega) (by omega)
      have L2 : ∀ (d1 : Array (Fin (m + 1))) wr1, fOf d1 = rotF (fOf dk) i M e → Rw m w blk d0 d1 wr1 → a < i → i < mid → _ := fun d1 wr1 h r c1 c2 =>
        HIH.out d1 wr1 r a i mid (by omega) c1 c2 (by have := HSZ.out; omega) (PG d1 h).l1 (PG d1 h).l2 (PG d1 h).lc
      have L3 : ∀ (d1 d2 : Array (Fin (m + 1))) wr1, fOf d1 = rotF (fOf dk) i M e → MergeTo v (fOf d1) (fOf d2) a mid → Rw m w blk d0 d2 wr1 → mid < e → e < b → _ := fun d1 d2 wr1 h m1 r c1 c2 =>
        have q := (PG d1 h).right m1 (by omega)
        HIH.out d2 wr1 r mid e b (by omega) c1 c2 (by have := HSZ.out; omega) q.1 q.2.1 q.2.2
      have N2 : ∀ d1 : Array (Fin (m + 1)), fOf d1 = rotF (fOf dk) i M e → ¬ (a < i ∧ i < mid) → MergeTo v (fOf d1) (fOf d1) a mid := fun d1 h c => merge_trivial (PG d1 h).l1 (PG d1 h).l2 c (by omega) (by omega)
      have N3 : ∀ d1 d2 : Array (Fin (m + 1)), fOf d1 = rotF (fOf dk) i M e → MergeTo v (fOf d1) (fOf d2) a mid → ¬ (mid < e ∧ e < b) → MergeTo v (fOf d2) (fOf d2) mid b := fun d1 d2 h m1 c =>
        have q := (PG d1 h).right m1 (by omega)
        merge_trivial q.1 q.2.1 c (by omega) (by omega)
      have hs := HSZ.out
      rw [hs] at L2 L3
      have NR : (i = M ∨ M = e) → fOf dk = rotF (fOf dk) i M e := fun c => (rot_none _ _ _ _ c (by omega) (by omega)).symm
      have RT := fun c1 c2 => HRT.out dk wr HR.out i M e c1 c2 (by have := HSZ.out; omega)
      rw [hs] at RT
      have PG := Lib.hid PG
      have FIN := Lib.hid FIN
      have L2 := Lib.hid L2
      have L3 := Lib.hid L3
      have N2 := Lib.hid N2
      have N3 := Lib.hid N3
      have NR := Lib.hid NR
      have RT := Lib.hid RT
      have be : e ≤ 128 := by omega
      have eq1 : e + i = mid + M := by omega
      have HAM := Lib.hid (show a < mid ∧ mid < b ∧ a < M ∧ M < b ∧ e ≤ b ∧ mid ≤ e ∧ a ≤ i ∧ i ≤ mid ∧ i ≤ M ∧ M ≤ e ∧ e + i = mid + M by omega)
      have HEE := Lib.hid he
      clear ar he hs eq1
      have am := HAM.out
      by_cases hA : i < M
      · by_cases hB : i < mid
        · have z1 : (i : Int) < (M : Int) := by omega
          have z2 : (M : Int) < (e : Int) := by omega
          have z3 : (i : Int) < (mid : Int) := by omega
          have z4 : (mid : Int) < (e : Int) := by omega
          have z5 : M < e := by omega
          have z6 : mid < e := by omega
          clear am
          by_cases hC : a < i
          · have y1 : (a : Int) < (i : Int) := by omega
            by_cases hD : e < b
            · have y2 : (e : Int) < (b : Int) := by omega
              go_wp2_with fail
              refine (RT.out hA z5).mono ?_
              rintro e1 w1 ⟨rfl, d1, f1, r1⟩
              have F1 := Lib.hid f1
              have R1 := Lib.hid r1
              clear f1 r1
              go_wp2_with fail
              refine (L2.out d1 _ F1.out R1.out hC hB).mono ?_
              rintro e2 w2 ⟨rfl, d2, f2, r2⟩
              have F2 := Lib.hid f2
              have R2 := Lib.hid r2
              clear f2 r2
              go_wp2_with fail
              refine (L3.out d1 d2 _ F1.out F2.out R2.out z6 hD).mono ?_
              rintro e3 w3 ⟨rfl, d3, f3, r3⟩
              have F3 := Lib.hid f3
              have R3 := Lib.hid r3
              clear f3 r3
              go_wp2_with fail
              go_end0
              exact ⟨rfl, d3, FIN.out d1 d2 d3 F1.out F2.out F3.out, R3.out⟩
            · have y2 : ¬ (e : Int) < (b : Int) := by omega
              go_wp2_with fail
              refine (RT.out hA z5).mono ?_
              rintro e1 w1 ⟨rfl, d1, f1, r1⟩
              have F1 := Lib.hid f1
              have R1 := Lib.hid r1
              clear f1 r1
              go_wp2_with fail
              refine (L2.out d1 _ F1.out R1.out hC hB).mono ?_
              rintro e2 w2 ⟨rfl, d2, f2, r2⟩
              have F2 := Lib.hid f2
              have R2 := Lib.hid r2
              clear f2 r2
              go_wp2_with fail
              go_end0
              exact ⟨rfl, d2, FIN.out d1 d2 d2 F1.out F2.out (N3.out d1 d2 F1.out F2.out (by omega)), R2.out⟩
          · have y1 : ¬ (a : Int) < (i : Int) := by omega
            by_cases hD : e < b
            · have y2 : (e : Int) < (b : Int) := by omega
              go_wp2_with fail
              refine (RT.out hA z5).mono ?_
              rintro e1 w1 ⟨rfl, d1, f1, r1⟩
              have F1 := Lib.hid f1
              have R1 := Lib.hid r1
              clear f1 r1
              go_wp2_with fail
              refine (L3.out d1 d1 _ F1.out (N2.out d1 F1.out (by omega)) R1.out z6 hD).mono ?_
              rintro e3 w3 ⟨rfl, d3, f3, r3⟩
              have F3 := Lib.hid f3
              have R3 := Lib.hid r3
              clear f3 r3
              go_wp2_with fail
              go_end0
              exact ⟨rfl, d3, FIN.out d1 d1 d3 F1.out (N2.out d1 F1.out (by omega)) F3.out, R3.out⟩
            · have y2 : ¬ (e : Int) < (b : Int) := by omega
              go_wp2_with fail
              refine (RT.out hA z5).mono ?_
              rintro e1 w1 ⟨rfl, d1, f1, r1⟩
              have F1 := Lib.hid f1
              have R1 := Lib.hid r1
              clear f1 r1
              go_wp2_with fail
              go_end0
              exact ⟨rfl, d1, FIN.out d1 d1 d1 F1.out (N2.out d1 F1.out (by omega)) (N3.out d1 d1 F1.out (N2.out d1 F1.out (by omega)) (by omega)), R1.out⟩
        · have z0 : i = mid := by omega
          have z1 : (i : Int) < (M : Int) := by omega
          have z2 : ¬ (M : Int) < (e : Int) := by omega
          have z3 : ¬ (i : Int) < (mid : Int) := by omega
          have z4 : (mid : Int) < (e : Int) := by omega
          have z7 : (a : Int) < (i : Int) := by omega
          have z8 : (e : Int) < (b : Int) := by omega
          have F1 := Lib.hid (NR.out (Or.inr (by omega)))
          have z6 : mid < e := by omega
          have z9 : e < b := by omega
          have Z0 := Lib.hid z0
          clear z0 am
          go_wp2_with fail
          refine (L3.out dk dk _ F1.out (N2.out dk F1.out (by omega)) HR.out z6 z9).mono ?_
          rintro e3 w3 ⟨rfl, d3, f3, r3⟩
          have F3 := Lib.hid f3
          have R3 := Lib.hid r3
          clear f3 r3
          go_wp2_with fail
          go_end0
          exact ⟨rfl, d3, FIN.out dk dk d3 F1.out (N2.out dk F1.out (by omega)) F3.out, R3.out⟩
      · have z0 : i = M := by omega
        have z00 : e = mid := by omega
        have z1 : ¬ (i : Int) < (M : Int) := by omega
        have z4 : ¬ (mid : Int) < (e : Int) := by omega
        have z7 : (a : Int) < (i : Int) := by omega
        have F1 := Lib.hid (NR.out (Or.inl z0))
        have z8 : ¬ mid < e := by omega
        have z9 : a < i := by omega
        clear z0 z00 am
        by_cases hB : i < mid
        · have z3 : (i : Int) < (mid : Int) := by omega
          go_wp2_with fail
          refine (L2.out dk _ F1.out HR.out z9 hB).mono ?_
          rintro e2 w2 ⟨rfl, d2, f2, r2⟩
          have F2 := Lib.hid f2
          have R2 := Lib.hid r2
          clear f2 r2
          go_wp2_with fail
          go_end0
          exact ⟨rfl, d2, FIN.out dk d2 d2 F1.out F2.out (N3.out dk d2 F1.out F2.out (by omega)), R2.out⟩
        · have z3 : ¬ (i : Int) < (mid : Int) := by omega
          go_wp2_with fail
          go_end0
          exact ⟨rfl, dk, FIN.out dk dk dk F1.out (N2.out dk F1.out (by omega)) (N3.out dk dk F1.out (N2.out dk F1.out (by omega)) (by omega)), HR.out⟩
end Go.Proofs.YtjhfbnndapopgaaDoor

/- slices.symMergeCmpFunc, the general step, and the whole. (gen_symc.py writes this text.) -/
namespace Go.Proofs.YtjhfbnndapopgaaDoor
open Go Go.RowKit Go.Lib Go.Sort WM


set_option maxHeartbeats 8000000 in
set_option maxRecDepth 1000000 in
theorem sym_midB {m : Nat} {w wr : World} {blk : Nat} {d0 dk : Array (Fin (m + 1))} {g : Nat} {cb : Array Value} {v : Nat → Int} {cf : Fin (m + 1) → Fin (m + 1) → Int} (C : CmpOn m w blk d0 g cb v cf) (hH : Holds (encF m) w blk 0 d0) (hsz : d0.size ≤ 64) (r : Rw m w blk d0 dk wr)
    (cap N a M b : Nat) (IH : SymUp m w blk d0 g cb v cap N) (hN : b - a ≤ N + 1) (h1 : a + 1 < M) (h2 : M + 1 < b) (hb : b ≤ d0.size) (hs1 : SortedOn v (fOf dk) a M) (hs2 : SortedOn v (fOf dk) M b) (hl : LeftOf (fOf dk) a M b)
    (mid : Nat) (hmid : mid = (a + b) / 2) (hcase : ¬ mid < M) :
    Calls Tryd.prog 97 #[.slice (some ⟨blk, 0, none⟩) d0.size cap, .int .i64 a, .int .i64 M, .int .i64 b, .func (.func g) #[] cb] wr fun e w' =>
      e = .returned (.tuple #[]) ∧ ∃ d', MergeTo v (fOf dk) (fOf d') a b ∧ Rw m w blk d0 d' w' := by
  have eg := C.eg
  have HC := fun (dk : Array (Fin (m + 1))) wr (r : Rw m w blk d0 dk wr) p q => C.at2 hH r p q
  have HR := fun (dk : Array (Fin (m + 1))) wr (r : Rw m w blk d0 dk wr) a M b => rotate_rw hH hsz r cap a M b g cb
  have HC := Lib.hid HC
  have HRT := Lib.hid HR
  have HIH : Hid (SymUp m w blk d0 g cb v cap N) := IH
  have R0 : Hid (Rw m w blk d0 dk wr) := r
  obtain ⟨sz, hszN⟩ : ∃ x, d0.size = x := ⟨_, rfl⟩
  have HSZ : Hid (d0.size = sz) := hszN
  rw [hszN] at hsz hb ⊢
  have HS1 := Lib.hid hs1
  have HS2 := Lib.hid hs2
  have HL := Lib.hid hl
  have mixed : Tryd.prog.follows Departure.mixedOrders = true := by kernel_rfl
  obtain ⟨df, hdf⟩ : ∃ x, x = M - a := ⟨_, rfl⟩
  have edf : (M : Int) - (a : Int) = (df : Int) := by omega
  have dne : ((df : Int) == 1) = false := by rw [beq_eq_false_iff_ne]; omega
  obtain ⟨dg, hdg⟩ : ∃ x, x = b - M := ⟨_, rfl⟩
  have edg : (b : Int) - (M : Int) = (dg : Int) := by omega
  have dge : ((dg : Int) == 1) = false := by rw [beq_eq_false_iff_ne]; omega
  have hdb : df ≤ 64 := by omega
  have hdb2 : dg ≤ 64 := by omega
  obtain ⟨ab, hab⟩ : ∃ x, x = a + b := ⟨_, rfl⟩
  have eab : (a : Int) + (b : Int) = (ab : Int) := by omega
  have emid : (ab : Int) / 2 = (mid : Int) := by omega
  have bab : ab ≤ 128 := by omega
  obtain ⟨nn, hnn⟩ : ∃ x, x = mid + M := ⟨_, rfl⟩
  have enn : (mid : Int) + (M : Int) = (nn : Int) := by omega
  have bnn : nn ≤ 128 := by omega
  have hgt : ¬ (mid : Int) < (M : Int) := by omega
  obtain ⟨pp, hpp⟩ : ∃ x, x = nn - 1 := ⟨_, rfl⟩
  have epp : (nn : Int) - 1 = (pp : Int) := by omega
  have q1 : a ≤ a := by omega
  have q2 : a ≤ M := by omega
  have q3 : M ≤ M := by omega
  have q4 : M ≤ mid := by omega
  have q5 : nn ≤ a + b := by omega
  have AR := Lib.hid (show nn = mid + M ∧ pp + 1 = nn ∧ (M = M ∨ M = mid) ∧ (a = a ∨ nn = a + b) ∧ a < mid ∧ mid + 1 < b ∧ mid = (a + b) / 2 ∧ a + 1 < M ∧ M + 1 < b ∧ b - a ≤ N + 1 by omega)
  clear r hH hszN hs1 hs2 hl C hdf hdg hab hnn  hpp hmid IH hN h1 h2 HR
  go_enter Tryd.func97, Tryd.ntmps97
  go_wp2_with fail
  go_loopg [20, 21] (M - a) (fun g1 vi vj wr2 => ∃ (i j : Nat), vi = .int .i64 i ∧ vj = .int .i64 j ∧ a ≤ i ∧ i ≤ j ∧ j ≤ M ∧ j - i ≤ g1 ∧ Hid (Rw m w blk d0 dk wr2) ∧ Hid (i = a ∨ ¬ bef v (fOf dk (pp - (i - 1))) (fOf dk (i - 1))) ∧ Hid (j = M ∨ bef v (fOf dk (pp - j)) (fOf dk j)))
  case atStart => exact ⟨a, M, by go_num, by go_num, Nat.le_refl _, q2, Nat.le_refl _, Nat.le_refl _, R0, Or.inl rfl, Or.inl rfl⟩
  case round =>
    obtain ⟨i, j, rfl, rfl, hMi, hij, hjb, hg1, HR, H1, H2⟩ := hrel
    clear R0
    by_cases hlt : i < j
    · have ar := AR.out
      obtain ⟨s, hs⟩ : ∃ x, x = i + j := ⟨_, rfl⟩
      have es : (i : Int) + (j : Int) = (s : Int) := by omega
      obtain ⟨h, hh⟩ : ∃ x, x = s / 2 := ⟨_, rfl⟩
      have eh : (s : Int) / 2 = (h : Int) := by omega
      have k1 : i ≤ h := by omega
      have k2 : h < j := by omega
      have bs : s ≤ 128 := by omega
      have bp : pp ≤ 128 := by omega
      have hsz0 := HSZ.out
      obtain ⟨x, hx⟩ : ∃ x, x = pp - h := ⟨_, rfl⟩
      have ex : (pp : Int) - (h : Int) = (x : Int) := by omega
      have hwp : IntKind.i64.wrap (x : Int) = (x : Int) := by rw [IntKind.wrap_i64]; omega
      have xM : M ≤ x := by omega
      have xb : x < b := by omega
      obtain ⟨ip, iq, c, c1, c2, hc, hv⟩ := HC.out dk _ HR.out x h (by omega) (by omega)
      have lh : (h : Int) < (sz : Int) := by omega
      have la : (x : Int) < (sz : Int) := by omega
      have hltz : (i : Int) < (j : Int) := by omega
      have hcross : bef v (fOf dk x) (fOf dk h) ↔ v (fOf dk h) < v (fOf dk x) := bef_cross (HL.out h x (by omega) (by omega) (by omega) (by omega))
      have HV := Lib.hid (hv.trans hcross.symm)
      have HD := Lib.hid hs
      have HE := Lib.hid hh
      have HX := Lib.hid hx
      clear hv hs hh hsz0 hcross ar hx
      by_cases hlv : c < 0
      · go_wp2_with fail
        go_quiet_o (first | (go_at_fn g; refine Calls.quiet_of (hc _)))
        go_wp2_with fail
        go_roundg (h - i)
        case measure => omega
        case rel => exact ⟨i, h, by go_num, by go_num, hMi, k1, by omega, Nat.le_refl _, HR.out.draw _, H1.out, Or.inr (by have := HX.out; rw [← this]; exact HV.out.1 hlv)⟩
      · have hdec : decide (c < 0) = false := decide_eq_false hlv
        go_wp2_with fail
        go_quiet_o (first | (go_at_fn g; refine Calls.quiet_of (hc _)))
        go_wp2_with fail
        go_roundg (j - (h + 1))
        case measure => omega
        case rel => exact ⟨h + 1, j, by go_num, by go_num, by omega, by omega, hjb, Nat.le_refl _, HR.out.draw _, Or.inr (by have := HX.out; rw [show h + 1 - 1 = h by omega, ← this]; exact fun x => absurd (HV.out.2 x) (by omega)), H2.out⟩
    · have hji : i = j := by omega
      subst hji
      have ar := AR.out
      have hltz : ¬ (i : Int) < (i : Int) := by omega
      obtain ⟨e, he⟩ : ∃ x, x = nn - i := ⟨_, rfl⟩
      have ee : (nn : Int) - (i : Int) = (e : Int) := by omega
      have PG : ∀ d1 : Array (Fin (m + 1)), fOf d1 = rotF (fOf dk) i M e → Parted v (fOf d1) a i mid e b := by
        intro d1 h
        rw [h]
        refine rot_parted HS1.out HS2.out HL.out (by omega) (by omega) (by omega) (by omega) (by omega) ?_ ?_
        · rcases H2.out with q | q
          · omega
          · rw [show pp - i = e - 1 by omega] at q; exact Or.inr (Or.inr q)
        · by_cases q0 : i = a
          · omega
          · rcases H1.out with q | q
            · omega
            · rw [show pp - (i - 1) = e by omega] at q; exact Or.inr (Or.inr q)
      have FIN : ∀ d1 d2 d3 : Array (Fin (m + 1)), fOf d1 = rotF (fOf dk) i M e → MergeTo v (fOf d1) (fOf d2) a mid → MergeTo v (fOf d2) (fOf d3) mid b → MergeTo v (fOf dk) (fOf d3) a b := by
        intro d1 d2 d3 h m1 m2
        refine merge_halves (PG d1 h) ?_ ?_ (by omega) (by omega) m1 m2
        · rw [h]; exact rot_sub _ _ _ _ _ _ (by omega) (by omega) (by omega) (by omega)
        · rw [h]; exact rot_same _ _ _ _ _ _ (by omega) (by omega) (by omega) (by omega)
      have L2 : ∀ (d1 : Array (Fin (m + 1))) wr1, fOf d1 = rotF (fOf dk) i M e → Rw m w blk d0 d1 wr1 → a < i → i < mid → _ := fun d1 wr1 h r c1 c2 =>
        HIH.out d1 wr1 r a i mid (by omega) c1 c2 (by have := HSZ.out; omega) (PG d1 h).l1 (PG d1 h).l2 (PG d1 h).lc
      have L3 : ∀ (d1 d2 : Array (Fin (m + 1))) wr1, fOf d1 = rotF (fOf dk) i M e → MergeTo v (fOf d1) (fOf d2) a mid → Rw m w blk d0 d2 wr1 → mid < e → e < b → _ := fun d1 d2 wr1 h m1 r c1 c2 =>
        have q := (PG d1 h).right m1 (by omega)
        HIH.out d2 wr1 r mid e b (by omega) c1 c2 (by have := HSZ.out; omega) q.1 q.2.1 q.2.2
      have N2 : ∀ d1 : Array (Fin (m + 1)), fOf d1 = rotF (fOf dk) i M e → ¬ (a < i ∧ i < mid) → MergeTo v (fOf d1) (fOf d1) a mid := fun d1 h c => merge_trivial (PG d1 h).l1 (PG d1 h).l2 c (by omega) (by omega)
      have N3 : ∀ d1 d2 : Array (Fin (m + 1)), fOf d1 = rotF (fOf dk) i M e → MergeTo v (fOf d1) (fOf d2) a mid → ¬ (mid < e ∧ e < b) → MergeTo v (fOf d2) (fOf d2) mid b := fun d1 d2 h m1 c =>
        have q := (PG d1 h).right m1 (by omega)
        merge_trivial q.1 q.2.1 c (by omega) (by omega)
      have hs := HSZ.out
      rw [hs] at L2 L3
      have NR : (i = M ∨ M = e) → fOf dk = rotF (fOf dk) i M e := fun c => (rot_none _ _ _ _ c (by omega) (by omega)).symm
      have RT := fun c1 c2 => HRT.out dk wr HR.out i M e c1 c2 (by have := HSZ.out; omega)
      rw [hs] at RT
      have PG := Lib.hid PG
      have FIN := Lib.hid FIN
      have L2 := Lib.hid L2
      have L3 := Lib.hid L3
      have N2 := Lib.hid N2
      have N3 := Lib.hid N3
      have NR := Lib.hid NR
      have RT := Lib.hid RT
      have be : e ≤ 128 := by omega
      have eq1 : e + i = mid + M := by omega
      have HAM := Lib.hid (show a < mid ∧ mid < b ∧ a < M ∧ M < b ∧ e ≤ b ∧ mid ≤ e ∧ a ≤ i ∧ i ≤ mid ∧ i ≤ M ∧ M ≤ e ∧ e + i = mid + M by omega)
      have HEE := Lib.hid he
      clear ar he hs eq1
      have am := HAM.out
      by_cases hA : i < M
      · by_cases hB : i < mid
        · have z1 : (i : Int) < (M : Int) := by omega
          have z2 : (M : Int) < (e : Int) := by omega
          have z3 : (i : Int) < (mid : Int) := by omega
          have z4 : (mid : Int) < (e : Int) := by omega
          have z5 : M < e := by omega
          have z6 : mid < e := by omega
          clear am
          by_cases hC : a < i
          · have y1 : (a : Int) < (i : Int) := by omega
            by_cases hD : e < b
            · have y2 : (e : Int) < (b : Int) := by omega
              go_wp2_with fail
              refine (RT.out hA z5).mono ?_
              rintro e1 w1 ⟨rfl, d1, f1, r1⟩
              have F1 := Lib.hid f1
              have R1 := Lib.hid r1
              clear f1 r1
              go_wp2_with fail
              refine (L2.out d1 _ F1.out R1.out hC hB).mono ?_
              rintro e2 w2 ⟨rfl, d2, f2, r2⟩
              have F2 := Lib.hid f2
              have R2 := Lib.hid r2
              clear f2 r2
              go_wp2_with fail
              refine (L3.out d1 d2 _ F1.out F2.out R2.out z6 hD).mono ?_
              rintro e3 w3 ⟨rfl, d3, f3, r3⟩
              have F3 := Lib.hid f3
              have R3 := Lib.hid r3
              clear f3 r3
              go_wp2_with fail
              go_end0
              exact ⟨rfl, d3, FIN.out d1 d2 d3 F1.out F2.out F3.out, R3.out⟩
            · have y2 : ¬ (e : Int) < (b : Int) := by omega
              go_wp2_with fail
              refine (RT.out hA z5).mono ?_
              rintro e1 w1 ⟨rfl, d1, f1, r1⟩
              have F1 := Lib.hid f1
              have R1 := Lib.hid r1
              clear f1 r1
              go_wp2_with fail
              refine (L2.out d1 _ F1.out R1.out hC hB).mono ?_
              rintro e2 w2 ⟨rfl, d2, f2, r2⟩
              have F2 := Lib.hid f2
              have R2 := Lib.hid r2
              clear f2 r2
              go_wp2_with fail
              go_end0
              exact ⟨rfl, d2, FIN.out d1 d2 d2 F1.out F2.out (N3.out d1 d2 F1.out F2.out (by omega)), R2.out⟩
          · have y1 : ¬ (a : Int) < (i : Int) := by omega
            by_cases hD : e < b
            · have y2 : (e : Int) < (b : Int) := by omega
              go_wp2_with fail
              refine (RT.out hA z5).mono ?_
              rintro e1 w1 ⟨rfl, d1, f1, r1⟩
              have F1 := Lib.hid f1
              have R1 := Lib.hid r1
              clear f1 r1
              go_wp2_with fail
              refine (L3.out d1 d1 _ F1.out (N2.out d1 F1.out (by omega)) R1.out z6 hD).mono ?_
              rintro e3 w3 ⟨rfl, d3, f3, r3⟩
              have F3 := Lib.hid f3
              have R3 := Lib.hid r3
              clear f3 r3
              go_wp2_with fail
              go_end0
              exact ⟨rfl, d3, FIN.out d1 d1 d3 F1.out (N2.out d1 F1.out (by omega)) F3.out, R3.out⟩
            · have y2 : ¬ (e : Int) < (b : Int) := by omega
              go_wp2_with fail
              refine (RT.out hA z5).mono ?_
              rintro e1 w1 ⟨rfl, d1, f1, r1⟩
              have F1 := Lib.hid f1
              have R1 := Lib.hid r1
              clear f1 r1
              go_wp2_with fail
              go_end0
              exact ⟨rfl, d1, FIN.out d1 d1 d1 F1.out (N2.out d1 F1.out (by omega)) (N3.out d1 d1 F1.out (N2.out d1 F1.out (by omega)) (by omega)), R1.out⟩
        · have z0 : i = mid := by omega
          have z1 : (i : Int) < (M : Int) := by omega
          have z2 : ¬ (M : Int) < (e : Int) := by omega
          have z3 : ¬ (i : Int) < (mid : Int) := by omega
          have z4 : (mid : Int) < (e : Int) := by omega
          have z7 : (a : Int) < (i : Int) := by omega
          have z8 : (e : Int) < (b : Int) := by omega
          have F1 := Lib.hid (NR.out (Or.inr (by omega)))
          have z6 : mid < e := by omega
          have z9 : e < b := by omega
          have Z0 := Lib.hid z0
          clear z0 am
          go_wp2_with fail
          refine (L3.out dk dk _ F1.out (N2.out dk F1.out (by omega)) HR.out z6 z9).mono ?_
          rintro e3 w3 ⟨rfl, d3, f3, r3⟩
          have F3 := Lib.hid f3
          have R3 := Lib.hid r3
          clear f3 r3
          go_wp2_with fail
          go_end0
          exact ⟨rfl, d3, FIN.out dk dk d3 F1.out (N2.out dk F1.out (by omega)) F3.out, R3.out⟩
      · have z0 : i = M := by omega
        have z00 : e = mid := by omega
        have z1 : ¬ (i : Int) < (M : Int) := by omega
        have z4 : ¬ (mid : Int) < (e : Int) := by omega
        have z7 : (a : Int) < (i : Int) := by omega
        have F1 := Lib.hid (NR.out (Or.inl z0))
        have z8 : ¬ mid < e := by omega
        have z9 : a < i := by omega
        clear z0 z00 am
        by_cases hB : i < mid
        · have z3 : (i : Int) < (mid : Int) := by omega
          go_wp2_with fail
          refine (L2.out dk _ F1.out HR.out z9 hB).mono ?_
          rintro e2 w2 ⟨rfl, d2, f2, r2⟩
          have F2 := Lib.hid f2
          have R2 := Lib.hid r2
          clear f2 r2
          go_wp2_with fail
          go_end0
          exact ⟨rfl, d2, FIN.out dk d2 d2 F1.out F2.out (N3.out dk d2 F1.out F2.out (by omega)), R2.out⟩
        · have z3 : ¬ (i : Int) < (mid : Int) := by omega
          go_wp2_with fail
          go_end0
          exact ⟨rfl, dk, FIN.out dk dk dk F1.out (N2.out dk F1.out (by omega)) (N3.out dk dk F1.out (N2.out dk F1.out (by omega)) (by omega)), HR.out⟩
end Go.Proofs.YtjhfbnndapopgaaDoor

/- slices.symMergeCmpFunc, the whole; a block sorted by insertion, plain. -/
namespace Go.Proofs.YtjhfbnndapopgaaDoor
open Go Go.RowKit Go.Lib Go.Sort WM

theorem sym_all {m : Nat} {w : World} {blk : Nat} {d0 : Array (Fin (m + 1))} {g : Nat} {cb : Array Value} {v : Nat → Int} {cf : Fin (m + 1) → Fin (m + 1) → Int} (C : CmpOn m w blk d0 g cb v cf) (hH : Holds (encF m) w blk 0 d0) (hsz : d0.size ≤ 64) (cap : Nat) :
    ∀ N, SymUp m w blk d0 g cb v cap N := by
  intro N
  induction N with
  | zero => intro dk wr r a M b h h1 h2; omega
  | succ N ih =>
    intro dk wr r a M b h h1 h2 hb s1 s2 hl
    by_cases c1 : M = a + 1
    · exact sym_left C hH hsz r cap a M b c1 h2 hb s2 hl
    · by_cases c2 : b = M + 1
      · exact sym_right C hH hsz r cap a M b c2 h1 c1 hb s1 hl
      · by_cases c3 : (a + b) / 2 < M
        · exact sym_midA C hH hsz r cap N a M b ih h (by omega) (by omega) hb s1 s2 hl _ rfl c3
        · exact sym_midB C hH hsz r cap N a M b ih h (by omega) (by omega) hb s1 s2 hl _ rfl c3

/-- The inner loop puts one element in its place. -/
theorem inner_put {m : Nat} {v : Nat → Int} {cf : Fin (m + 1) → Fin (m + 1) → Int} (hcf : ∀ x y : Fin (m + 1), cf x y < 0 ↔ v y.val < v x.val) (f : Nat → Nat) (a i : Nat) (hl : LeftOf f a i (i + 1)) :
    ∀ (j : Nat) (d : Array (Fin (m + 1))), a ≤ j → j ≤ i → i < d.size → fOf d = rotF f j i (i + 1) → (j = i ∨ bef v (f i) (f j)) →
      (insInner (ltOf cf) a j d).size = d.size ∧ ∃ p, a ≤ p ∧ p ≤ i ∧ fOf (insInner (ltOf cf) a j d) = rotF f p i (i + 1) ∧ (p = a ∨ ¬ bef v (f i) (f (p - 1))) ∧ (p = i ∨ bef v (f i) (f p)) := by
  intro j
  induction j with
  | zero => intro d h0 h1 h2 h3 h4; rw [insInner]; exact ⟨rfl, 0, h0, h1, h3, Or.inl (by omega), h4⟩
  | succ j ih =>
    intro d h0 h1 h2 h3 h4
    by_cases haj : a < j + 1
    · have e1 : fOf d (j + 1) = f i := by rw [h3]; unfold rotF; rw [if_pos (by omega)]; congr 1; omega
      have e2 : fOf d j = f j := by rw [h3]; unfold rotF; rw [if_neg (by omega), if_neg (by omega)]
      have hx : cf d[j + 1]! d[j]! < 0 ↔ bef v (f i) (f j) := by
        rw [hcf, bef_cross (hl j i (by omega) (by omega) (by omega) (by omega)), ← e1, ← e2]
        rfl
      by_cases hc : cf d[j + 1]! d[j]! < 0
      · rw [insInner_go _ _ _ _ haj (by simp only [Nat.add_sub_cancel]; exact decide_eq_true hc)]
        simp only [Nat.add_sub_cancel]
        have q := ih (swp d (j + 1) j) (by omega) (by omega) (by rw [size_swp]; exact h2) (by rw [fOf_swp _ _ _ (by omega) (by omega), h3, ← rot_down f j i (by omega)]) (Or.inr (hx.1 hc))
        rw [size_swp] at q
        exact q
      · rw [insInner_stop _ _ _ _ (Or.inr (by simp only [Nat.add_sub_cancel]; exact decide_eq_false hc))]
        exact ⟨rfl, j + 1, h0, h1, h3, Or.inr (by rw [Nat.add_sub_cancel]; exact fun x => hc (hx.2 x)), h4⟩
    · rw [insInner_stop _ _ _ _ (Or.inl (by omega))]
      exact ⟨rfl, j + 1, h0, h1, h3, Or.inl (by omega), h4⟩

theorem outer_sort {m : Nat} {v : Nat → Int} {cf : Fin (m + 1) → Fin (m + 1) → Int} (hcf : ∀ x y : Fin (m + 1), cf x y < 0 ↔ v y.val < v x.val) (f : Nat → Nat) (a b : Nat) (hasc : ∀ x y, a ≤ x → x < y → y < b → f x < f y) :
    ∀ (k i : Nat) (d : Array (Fin (m + 1))), b - i = k → a < i → i ≤ b → b ≤ d.size → SortedOn v (fOf d) a i → SubOn (fOf d) f a i → SameOut (fOf d) f a i →
      (insOuter (ltOf cf) a b i d).size = d.size ∧ MergeTo v f (fOf (insOuter (ltOf cf) a b i d)) a b := by
  intro k
  induction k with
  | zero =>
    intro i d h0 h1 h2 h3 s1 s2 s3
    rw [insOuter_stop _ _ _ _ _ (by omega)]
    have : i = b := by omega
    subst this
    exact ⟨rfl, s1, s2, s3⟩
  | succ k ih =>
    intro i d h0 h1 h2 h3 s1 s2 s3
    rw [insOuter_go _ _ _ _ _ (by omega)]
    have hi : fOf d i = f i := s3 i (Or.inr (Nat.le_refl _))
    have hl : LeftOf (fOf d) a i (i + 1) := by
      intro x y x0 x1 y0 y1
      obtain ⟨x', a1, a2, e⟩ := s2 x x0 x1
      rw [show y = i by omega, hi, e]
      exact hasc x' i a1 a2 (by omega)
    obtain ⟨q0, p, p0, p1, e, c1, c2⟩ := inner_put hcf (fOf d) a i hl i d (by omega) (Nat.le_refl _) (by omega) (by rw [rot_none _ _ _ _ (Or.inl rfl) (by omega) (by omega)]) (Or.inl rfl)
    have M := merge_right s1 hl p0 p1 c1 c2
    rw [← e] at M
    have t2 : SubOn (fOf d) f a (i + 1) := by
      intro x x0 x1
      by_cases c : x < i
      · obtain ⟨x', a1, a2, e⟩ := s2 x x0 c
        exact ⟨x', a1, by omega, e⟩
      · exact ⟨i, by omega, by omega, by rw [show x = i by omega, hi]⟩
    have r := ih (i + 1) (insInner (ltOf cf) a i d) (by omega) (by omega) (by omega) (by rw [q0]; exact h3) M.sorted (M.sub.trans t2) (fun x hx => by rw [M.same x hx]; exact s3 x (by omega))
    rw [q0] at r
    exact r

theorem insertion_sort {m : Nat} {v : Nat → Int} {cf : Fin (m + 1) → Fin (m + 1) → Int} (hcf : ∀ x y : Fin (m + 1), cf x y < 0 ↔ v y.val < v x.val) (d : Array (Fin (m + 1))) (a b : Nat) (hab : a ≤ b) (hb : b ≤ d.size) (hasc : ∀ x y, a ≤ x → x < y → y < b → fOf d x < fOf d y) :
    (Sort.insertionSort (ltOf cf) d a b).size = d.size ∧ MergeTo v (fOf d) (fOf (Sort.insertionSort (ltOf cf) d a b)) a b := by
  unfold Sort.insertionSort
  by_cases c : a < b
  · exact outer_sort hcf (fOf d) a b hasc _ (a + 1) d rfl (by omega) (by omega) hb (fun i j i0 ij jb => by omega) (fun k k0 k1 => ⟨k, k0, k1, rfl⟩) (fun _ _ => rfl)
  · rw [insOuter_stop _ _ _ _ _ (by omega)]
    exact ⟨rfl, fun i j i0 ij jb => by omega, fun k k0 k1 => ⟨k, k0, k1, rfl⟩, fun _ _ => rfl⟩

/-- The values of [A, B) are its own places. -/
structure Sd (v : Nat → Int) (f : Nat → Nat) (A B : Nat) : Prop where
  sorted : SortedOn v f A B
  own : ∀ k, A ≤ k → k < B → A ≤ f k ∧ f k < B
def Idn (f : Nat → Nat) (A B : Nat) : Prop := ∀ k, A ≤ k → k < B → f k = k
theorem Sd.keep {v : Nat → Int} {f g : Nat → Nat} {A B a b : Nat} (h : Sd v f A B) (M : MergeTo v f g a b) (hd : B ≤ a ∨ b ≤ A) : Sd v g A B := by
  refine ⟨fun i j i0 ij jb => ?_, fun k k0 k1 => ?_⟩
  · rw [M.same i (by omega), M.same j (by omega)]; exact h.sorted i j i0 ij jb
  · rw [M.same k (by omega)]; exact h.own k k0 k1
theorem Idn.keep {v : Nat → Int} {f g : Nat → Nat} {A B a b : Nat} (h : Idn f A B) (M : MergeTo v f g a b) (hd : B ≤ a ∨ b ≤ A) : Idn g A B := by
  intro k k0 k1
  rw [M.same k (by omega)]; exact h k k0 k1
theorem Idn.asc {f : Nat → Nat} {A B : Nat} (h : Idn f A B) : ∀ x y, A ≤ x → x < y → y < B → f x < f y := by
  intro x y x0 xy yB
  rw [h x x0 (by omega), h y (by omega) yB]; exact xy
theorem Idn.sd {v : Nat → Int} {f g : Nat → Nat} {A B : Nat} (h : Idn f A B) (M : MergeTo v f g A B) : Sd v g A B := by
  refine ⟨M.sorted, fun k k0 k1 => ?_⟩
  obtain ⟨k', a1, a2, e⟩ := M.sub k k0 k1
  rw [e, h k' a1 a2]; exact ⟨a1, a2⟩
theorem Sd.left {v : Nat → Int} {f : Nat → Nat} {A M B : Nat} (h1 : Sd v f A M) (h2 : Sd v f M B) : LeftOf f A M B := by
  intro x y x0 x1 y0 y1
  have := (h1.own x x0 x1).2
  have := (h2.own y y0 y1).1
  omega
theorem Sd.merge {v : Nat → Int} {f g : Nat → Nat} {A M B : Nat} (h1 : Sd v f A M) (h2 : Sd v f M B) (ha : A ≤ M) (hb : M ≤ B) (G : MergeTo v f g A B) : Sd v g A B := by
  refine ⟨G.sorted, fun k k0 k1 => ?_⟩
  obtain ⟨k', a1, a2, e⟩ := G.sub k k0 k1
  rw [e]
  by_cases c : k' < M
  · have := h1.own k' a1 c; omega
  · have := h2.own k' (by omega) a2; omega
end Go.Proofs.YtjhfbnndapopgaaDoor

/- slices.insertionSortCmpFunc and symMergeCmpFunc, as slices.stableCmpFunc calls them. -/
namespace Go.Proofs.YtjhfbnndapopgaaDoor
open Go Go.RowKit Go.Lib Go.Sort WM

theorem cmp_rw {m : Nat} {w wr : World} {blk : Nat} {d0 dk : Array (Fin (m + 1))} {g : Nat} {cb : Array Value} {cf : Fin (m + 1) → Fin (m + 1) → Int} (hcmp : CmpReads Tryd.prog g cb (encF m) cf blk 0 d0.size w) (r : Rw m w blk d0 dk wr) :
    CmpReads Tryd.prog g cb (encF m) cf blk 0 dk.size wr := by
  intro k os dk' hs x y
  obtain ⟨hk, q, rfl⟩ := r
  have h := hcmp (q + k) os dk' (by omega) x y
  have e1 : Sort.ahead ((putRow (encF m) w blk 0 dk).drewN q) k = putRow (encF m) (Sort.ahead w (q + k)) blk 0 dk := by
    simp [Sort.ahead, World.drewN, putRow, mapBlock, Nat.add_assoc]
  have e : sortWorld (encF m) ((putRow (encF m) w blk 0 dk).drewN q) blk 0 k dk' os = sortWorld (encF m) w blk 0 (q + k) dk' os := by
    unfold sortWorld
    rw [e1, putRow_putRow _ _ _ _ _ _ hs]
  rw [e]
  exact h
theorem cmp_on {m : Nat} {w : World} {blk : Nat} {d0 : Array (Fin (m + 1))} {g : Nat} {cb : Array Value} {v : Nat → Int} {cf : Fin (m + 1) → Fin (m + 1) → Int} (hcmp : CmpReads Tryd.prog g cb (encF m) cf blk 0 d0.size w)
    (eg : ∀ args w, (callFunc g args).run Tryd.prog w = .ok (.enter g args) w) (hcf : ∀ x y : Fin (m + 1), cf x y < 0 ↔ v y.val < v x.val) : CmpOn m w blk d0 g cb v cf := by
  refine ⟨eg, hcf, fun dk wr r x y => ?_⟩
  obtain ⟨hk, q, rfl⟩ := r
  have h := hcmp q #[] dk hk x y
  rw [sortWorld_none] at h
  exact h

/-- The two callees, from any world of the sort's. -/
structure StepsOn (m : Nat) (w : World) (blk : Nat) (d0 : Array (Fin (m + 1))) (g : Nat) (cb : Array Value) (v : Nat → Int) (cap : Nat) : Prop where
  ins : ∀ (dk : Array (Fin (m + 1))) wr, Rw m w blk d0 dk wr → ∀ a b : Nat, a ≤ b → b ≤ d0.size → Idn (fOf dk) a b →
    Calls Tryd.prog 96 #[.slice (some ⟨blk, 0, none⟩) d0.size cap, .int .i64 a, .int .i64 b, .func (.func g) #[] cb] wr fun e w' =>
      e = .returned (.tuple #[]) ∧ ∃ d', MergeTo v (fOf dk) (fOf d') a b ∧ Rw m w blk d0 d' w'
  sym : ∀ (dk : Array (Fin (m + 1))) wr, Rw m w blk d0 dk wr → ∀ a M b : Nat, a < M → M < b → b ≤ d0.size → Sd v (fOf dk) a M → Sd v (fOf dk) M b →
    Calls Tryd.prog 97 #[.slice (some ⟨blk, 0, none⟩) d0.size cap, .int .i64 a, .int .i64 M, .int .i64 b, .func (.func g) #[] cb] wr fun e w' =>
      e = .returned (.tuple #[]) ∧ ∃ d', MergeTo v (fOf dk) (fOf d') a b ∧ Rw m w blk d0 d' w'
theorem steps_on {m : Nat} {w : World} {blk : Nat} {d0 : Array (Fin (m + 1))} {g : Nat} {cb : Array Value} {v : Nat → Int} {cf : Fin (m + 1) → Fin (m + 1) → Int} (hcmp : CmpReads Tryd.prog g cb (encF m) cf blk 0 d0.size w)
    (eg : ∀ args w, (callFunc g args).run Tryd.prog w = .ok (.enter g args) w) (hcf : ∀ x y : Fin (m + 1), cf x y < 0 ↔ v y.val < v x.val) (hH : Holds (encF m) w blk 0 d0) (hsz : d0.size ≤ 64) (cap : Nat) : StepsOn m w blk d0 g cb v cap := by
  refine ⟨fun dk wr r a b hab hb hid => ?_, fun dk wr r a M b h1 h2 hb s1 s2 => ?_⟩
  · have hs := r.1
    have hc := Tryd.insertionSortCmpFunc_one (encF m) (fun _ => rfl) cf g cb blk 0 cap a b dk wr eg (cmp_rw hcmp r) (r.holds hH) hab (by omega) (by omega)
    rw [hs] at hc
    refine hc.mono ?_
    rintro e w' ⟨rfl, n, rfl⟩
    obtain ⟨q1, q2⟩ := insertion_sort hcf dk a b hab (by omega) hid.asc
    exact ⟨rfl, _, q2, r.step q1 n⟩
  · exact sym_all (cmp_on hcmp eg hcf) hH hsz cap (b - a) dk wr r a M b (Nat.le_refl _) h1 h2 hb s1.sorted s2.sorted (s1.left s2)
end Go.Proofs.YtjhfbnndapopgaaDoor

/- slices.stableCmpFunc for at most 64 elements, class by class (gen_stable.py writes this text). -/
namespace Go.Proofs.YtjhfbnndapopgaaDoor
open Go Go.RowKit Go.Lib Go.Sort WM

set_option maxHeartbeats 8000000 in
set_option maxRecDepth 1000000 in
theorem stable_A {m : Nat} {w : World} {blk : Nat} {d0 : Array (Fin (m + 1))} {g : Nat} {cb : Array Value} {v : Nat → Int} {cap : Nat} (S : StepsOn m w blk d0 g cb v cap) (r0 : Rw m w blk d0 d0 w) (hid : Idn (fOf d0) 0 d0.size) (hc : d0.size < 20) :
    Calls Tryd.prog 86 #[.slice (some ⟨blk, 0, none⟩) d0.size cap, .int .i64 d0.size, .func (.func g) #[] cb] w fun e w' =>
      e = .returned (.tuple #[]) ∧ ∃ d', Sd v (fOf d') 0 d0.size ∧ Rw m w blk d0 d' w' := by
  have SI := S.ins
  have SS := S.sym
  obtain ⟨n, hn⟩ : ∃ x, d0.size = x := ⟨_, rfl⟩
  rw [hn] at SI SS hid hc ⊢
  have SI := Lib.hid SI
  have SS := Lib.hid SS
  have I0 := Lib.hid hid
  have R0 := Lib.hid r0
  clear S hid r0 hn
  have l20 : decide ((20 : Int) ≤ (n : Int)) = false := by simp; omega
  have t20 : decide ((20 : Int) < (n : Int)) = false := by simp; omega
  have l40 : decide ((40 : Int) ≤ (n : Int)) = false := by simp; omega
  have t40 : decide ((40 : Int) < (n : Int)) = false := by simp; omega
  have l60 : decide ((60 : Int) ≤ (n : Int)) = false := by simp; omega
  have t60 : decide ((60 : Int) < (n : Int)) = false := by simp; omega
  have l80 : decide ((80 : Int) ≤ (n : Int)) = false := by simp; omega
  have t80 : decide ((80 : Int) < (n : Int)) = false := by simp; omega
  go_enter Tryd.func86, Tryd.ntmps86
  go_wp2_with fail
  refine wp_loop_rounds 1 ?_
  rw [rounds_succ]
  go_wp2_with fail
  refine (SI.out d0 _ R0.out 0 n (by omega) (by omega) (fun k k0 k1 => I0.out k (by omega) (by omega))).mono ?_
  rintro e1 w1 ⟨rfl, d1, m1, r1⟩
  have F1_0 : Sd v (fOf d1) 0 n := Idn.sd (fun k k0 k1 => I0.out k (by omega) (by omega)) m1
  have F1_0 := Lib.hid F1_0
  have R1 := Lib.hid r1
  clear m1 r1
  go_wp2_with fail
  refine wp_loop_rounds 1 ?_
  rw [rounds_succ]
  go_wp2_with fail
  go_end0
  exact ⟨rfl, d1, F1_0.out, R1.out⟩

set_option maxHeartbeats 8000000 in
set_option maxRecDepth 1000000 in
theorem stable_B {m : Nat} {w : World} {blk : Nat} {d0 : Array (Fin (m + 1))} {g : Nat} {cb : Array Value} {v : Nat → Int} {cap : Nat} (S : StepsOn m w blk d0 g cb v cap) (r0 : Rw m w blk d0 d0 w) (hid : Idn (fOf d0) 0 d0.size) (hc : d0.size = 20) :
    Calls Tryd.prog 86 #[.slice (some ⟨blk, 0, none⟩) d0.size cap, .int .i64 d0.size, .func (.func g) #[] cb] w fun e w' =>
      e = .returned (.tuple #[]) ∧ ∃ d', Sd v (fOf d') 0 d0.size ∧ Rw m w blk d0 d' w' := by
  have SI := S.ins
  have SS := S.sym
  obtain ⟨n, hn⟩ : ∃ x, d0.size = x := ⟨_, rfl⟩
  rw [hn] at SI SS hid hc ⊢
  have SI := Lib.hid SI
  have SS := Lib.hid SS
  have I0 := Lib.hid hid
  have R0 := Lib.hid r0
  clear S hid r0 hn
  have l20 : decide ((20 : Int) ≤ (n : Int)) = true := by simp; omega
  have t20 : decide ((20 : Int) < (n : Int)) = false := by simp; omega
  have l40 : decide ((40 : Int) ≤ (n : Int)) = false := by simp; omega
  have t40 : decide ((40 : Int) < (n : Int)) = false := by simp; omega
  have l60 : decide ((60 : Int) ≤ (n : Int)) = false := by simp; omega
  have t60 : decide ((60 : Int) < (n : Int)) = false := by simp; omega
  have l80 : decide ((80 : Int) ≤ (n : Int)) = false := by simp; omega
  have t80 : decide ((80 : Int) < (n : Int)) = false := by simp; omega
  have hc1 : 20 ≤ n := by omega
  have hc2 : n ≤ 20 := by omega
  clear hc
  go_enter Tryd.func86, Tryd.ntmps86
  go_wp2_with fail
  refine wp_loop_rounds 2 ?_
  rw [rounds_succ]
  go_wp2_with fail
  refine (SI.out d0 _ R0.out 0 20 (by omega) (by omega) (fun k k0 k1 => I0.out k (by omega) (by omega))).mono ?_
  rintro e1 w1 ⟨rfl, d1, m1, r1⟩
  have F1_0 : Sd v (fOf d1) 0 20 := Idn.sd (fun k k0 k1 => I0.out k (by omega) (by omega)) m1
  have F1_0 := Lib.hid F1_0
  have R1 := Lib.hid r1
  clear m1 r1
  go_wp2_with fail
  rw [rounds_succ]
  go_wp2_with fail
  refine (SI.out d1 _ R1.out 20 n (by omega) (by omega) (fun k k0 k1 => by omega)).mono ?_
  rintro e2 w2 ⟨rfl, d2, m2, r2⟩
  have F2_1 : Sd v (fOf d2) 0 20 := Sd.keep F1_0.out m2 (by omega)
  have F2_1 := Lib.hid F2_1
  have R2 := Lib.hid r2
  clear m2 r2
  go_wp2_with fail
  refine wp_loop_rounds 1 ?_
  rw [rounds_succ]
  go_wp2_with fail
  go_end0
  exact ⟨rfl, d2, (by have h := F2_1.out; rw [show n = 20 by omega]; exact h), R2.out⟩

set_option maxHeartbeats 8000000 in
set_option maxRecDepth 1000000 in
theorem stable_C {m : Nat} {w : World} {blk : Nat} {d0 : Array (Fin (m + 1))} {g : Nat} {cb : Array Value} {v : Nat → Int} {cap : Nat} (S : StepsOn m w blk d0 g cb v cap) (r0 : Rw m w blk d0 d0 w) (hid : Idn (fOf d0) 0 d0.size) (hc : 20 < d0.size ∧ d0.size < 40) :
    Calls Tryd.prog 86 #[.slice (some ⟨blk, 0, none⟩) d0.size cap, .int .i64 d0.size, .func (.func g) #[] cb] w fun e w' =>
      e = .returned (.tuple #[]) ∧ ∃ d', Sd v (fOf d') 0 d0.size ∧ Rw m w blk d0 d' w' := by
  have SI := S.ins
  have SS := S.sym
  obtain ⟨n, hn⟩ : ∃ x, d0.size = x := ⟨_, rfl⟩
  rw [hn] at SI SS hid hc ⊢
  have SI := Lib.hid SI
  have SS := Lib.hid SS
  have I0 := Lib.hid hid
  have R0 := Lib.hid r0
  clear S hid r0 hn
  have l20 : decide ((20 : Int) ≤ (n : Int)) = true := by simp; omega
  have t20 : decide ((20 : Int) < (n : Int)) = true := by simp; omega
  have l40 : decide ((40 : Int) ≤ (n : Int)) = false := by simp; omega
  have t40 : decide ((40 : Int) < (n : Int)) = false := by simp; omega
  have l60 : decide ((60 : Int) ≤ (n : Int)) = false := by simp; omega
  have t60 : decide ((60 : Int) < (n : Int)) = false := by simp; omega
  have l80 : decide ((80 : Int) ≤ (n : Int)) = false := by simp; omega
  have t80 : decide ((80 : Int) < (n : Int)) = false := by simp; omega
  go_enter Tryd.func86, Tryd.ntmps86
  go_wp2_with fail
  refine wp_loop_rounds 2 ?_
  rw [rounds_succ]
  go_wp2_with fail
  refine (SI.out d0 _ R0.out 0 20 (by omega) (by omega) (fun k k0 k1 => I0.out k (by omega) (by omega))).mono ?_
  rintro e1 w1 ⟨rfl, d1, m1, r1⟩
  have F1_0 : Sd v (fOf d1) 0 20 := Idn.sd (fun k k0 k1 => I0.out k (by omega) (by omega)) m1
  have F1_1 : Idn (fOf d1) 20 n := Idn.keep (show Idn (fOf d0) 20 n from fun k k0 k1 => I0.out k (by omega) (by omega)) m1 (by omega)
  have F1_0 := Lib.hid F1_0
  have F1_1 := Lib.hid F1_1
  have R1 := Lib.hid r1
  clear m1 r1
  go_wp2_with fail
  rw [rounds_succ]
  go_wp2_with fail
  refine (SI.out d1 _ R1.out 20 n (by omega) (by omega) (fun k k0 k1 => F1_1.out k (by omega) (by omega))).mono ?_
  rintro e2 w2 ⟨rfl, d2, m2, r2⟩
  have F2_0 : Sd v (fOf d2) 20 n := Idn.sd (fun k k0 k1 => F1_1.out k (by omega) (by omega)) m2
  have F2_1 : Sd v (fOf d2) 0 20 := Sd.keep F1_0.out m2 (by omega)
  have F2_0 := Lib.hid F2_0
  have F2_1 := Lib.hid F2_1
  have R2 := Lib.hid r2
  clear m2 r2
  go_wp2_with fail
  refine wp_loop_rounds 2 ?_
  rw [rounds_succ]
  go_wp2_with fail
  refine wp_loop_rounds 1 ?_
  rw [rounds_succ]
  go_wp2_with fail
  refine (SS.out d2 _ R2.out 0 20 n (by omega) (by omega) (by omega) F2_1.out F2_0.out).mono ?_
  rintro e3 w3 ⟨rfl, d3, m3, r3⟩
  have F3_0 : Sd v (fOf d3) 0 n := Sd.merge F2_1.out F2_0.out (by omega) (by omega) m3
  have F3_0 := Lib.hid F3_0
  have R3 := Lib.hid r3
  clear m3 r3
  go_wp2_with fail
  rw [rounds_succ]
  go_wp2_with fail
  go_end0
  exact ⟨rfl, d3, F3_0.out, R3.out⟩

set_option maxHeartbeats 8000000 in
set_option maxRecDepth 1000000 in
theorem stable_D {m : Nat} {w : World} {blk : Nat} {d0 : Array (Fin (m + 1))} {g : Nat} {cb : Array Value} {v : Nat → Int} {cap : Nat} (S : StepsOn m w blk d0 g cb v cap) (r0 : Rw m w blk d0 d0 w) (hid : Idn (fOf d0) 0 d0.size) (hc : d0.size = 40) :
    Calls Tryd.prog 86 #[.slice (some ⟨blk, 0, none⟩) d0.size cap, .int .i64 d0.size, .func (.func g) #[] cb] w fun e w' =>
      e = .returned (.tuple #[]) ∧ ∃ d', Sd v (fOf d') 0 d0.size ∧ Rw m w blk d0 d' w' := by
  have SI := S.ins
  have SS := S.sym
  obtain ⟨n, hn⟩ : ∃ x, d0.size = x := ⟨_, rfl⟩
  rw [hn] at SI SS hid hc ⊢
  have SI := Lib.hid SI
  have SS := Lib.hid SS
  have I0 := Lib.hid hid
  have R0 := Lib.hid r0
  clear S hid r0 hn
  have l20 : decide ((20 : Int) ≤ (n : Int)) = true := by simp; omega
  have t20 : decide ((20 : Int) < (n : Int)) = true := by simp; omega
  have l40 : decide ((40 : Int) ≤ (n : Int)) = true := by simp; omega
  have t40 : decide ((40 : Int) < (n : Int)) = false := by simp; omega
  have l60 : decide ((60 : Int) ≤ (n : Int)) = false := by simp; omega
  have t60 : decide ((60 : Int) < (n : Int)) = false := by simp; omega
  have l80 : decide ((80 : Int) ≤ (n : Int)) = false := by simp; omega
  have t80 : decide ((80 : Int) < (n : Int)) = false := by simp; omega
  have hc1 : 40 ≤ n := by omega
  have hc2 : n ≤ 40 := by omega
  clear hc
  go_enter Tryd.func86, Tryd.ntmps86
  go_wp2_with fail
  refine wp_loop_rounds 3 ?_
  rw [rounds_succ]
  go_wp2_with fail
  refine (SI.out d0 _ R0.out 0 20 (by omega) (by omega) (fun k k0 k1 => I0.out k (by omega) (by omega))).mono ?_
  rintro e1 w1 ⟨rfl, d1, m1, r1⟩
  have F1_0 : Sd v (fOf d1) 0 20 := Idn.sd (fun k k0 k1 => I0.out k (by omega) (by omega)) m1
  have F1_1 : Idn (fOf d1) 20 n := Idn.keep (show Idn (fOf d0) 20 n from fun k k0 k1 => I0.out k (by omega) (by omega)) m1 (by omega)
  have F1_0 := Lib.hid F1_0
  have F1_1 := Lib.hid F1_1
  have R1 := Lib.hid r1
  clear m1 r1
  go_wp2_with fail
  rw [rounds_succ]
  go_wp2_with fail
  refine (SI.out d1 _ R1.out 20 40 (by omega) (by omega) (fun k k0 k1 => F1_1.out k (by omega) (by omega))).mono ?_
  rintro e2 w2 ⟨rfl, d2, m2, r2⟩
  have F2_0 : Sd v (fOf d2) 20 40 := Idn.sd (fun k k0 k1 => F1_1.out k (by omega) (by omega)) m2
  have F2_1 : Sd v (fOf d2) 0 20 := Sd.keep F1_0.out m2 (by omega)
  have F2_0 := Lib.hid F2_0
  have F2_1 := Lib.hid F2_1
  have R2 := Lib.hid r2
  clear m2 r2
  go_wp2_with fail
  rw [rounds_succ]
  go_wp2_with fail
  refine (SI.out d2 _ R2.out 40 n (by omega) (by omega) (fun k k0 k1 => by omega)).mono ?_
  rintro e3 w3 ⟨rfl, d3, m3, r3⟩
  have F3_1 : Sd v (fOf d3) 20 40 := Sd.keep F2_0.out m3 (by omega)
  have F3_2 : Sd v (fOf d3) 0 20 := Sd.keep F2_1.out m3 (by omega)
  have F3_1 := Lib.hid F3_1
  have F3_2 := Lib.hid F3_2
  have R3 := Lib.hid r3
  clear m3 r3
  go_wp2_with fail
  refine wp_loop_rounds 2 ?_
  rw [rounds_succ]
  go_wp2_with fail
  refine wp_loop_rounds 2 ?_
  rw [rounds_succ]
  go_wp2_with fail
  refine (SS.out d3 _ R3.out 0 20 40 (by omega) (by omega) (by omega) F3_2.out F3_1.out).mono ?_
  rintro e4 w4 ⟨rfl, d4, m4, r4⟩
  have F4_0 : Sd v (fOf d4) 0 40 := Sd.merge F3_2.out F3_1.out (by omega) (by omega) m4
  have F4_0 := Lib.hid F4_0
  have R4 := Lib.hid r4
  clear m4 r4
  go_wp2_with fail
  rw [rounds_succ]
  go_wp2_with fail
  rw [rounds_succ]
  go_wp2_with fail
  go_end0
  exact ⟨rfl, d4, (by have h := F4_0.out; rw [show n = 40 by omega]; exact h), R4.out⟩

set_option maxHeartbeats 8000000 in
set_option maxRecDepth 1000000 in
theorem stable_E {m : Nat} {w : World} {blk : Nat} {d0 : Array (Fin (m + 1))} {g : Nat} {cb : Array Value} {v : Nat → Int} {cap : Nat} (S : StepsOn m w blk d0 g cb v cap) (r0 : Rw m w blk d0 d0 w) (hid : Idn (fOf d0) 0 d0.size) (hc : 40 < d0.size ∧ d0.size < 60) :
    Calls Tryd.prog 86 #[.slice (some ⟨blk, 0, none⟩) d0.size cap, .int .i64 d0.size, .func (.func g) #[] cb] w fun e w' =>
      e = .returned (.tuple #[]) ∧ ∃ d', Sd v (fOf d') 0 d0.size ∧ Rw m w blk d0 d' w' := by
  have SI := S.ins
  have SS := S.sym
  obtain ⟨n, hn⟩ : ∃ x, d0.size = x := ⟨_, rfl⟩
  rw [hn] at SI SS hid hc ⊢
  have SI := Lib.hid SI
  have SS := Lib.hid SS
  have I0 := Lib.hid hid
  have R0 := Lib.hid r0
  clear S hid r0 hn
  have l20 : decide ((20 : Int) ≤ (n : Int)) = true := by simp; omega
  have t20 : decide ((20 : Int) < (n : Int)) = true := by simp; omega
  have l40 : decide ((40 : Int) ≤ (n : Int)) = true := by simp; omega
  have t40 : decide ((40 : Int) < (n : Int)) = true := by simp; omega
  have l60 : decide ((60 : Int) ≤ (n : Int)) = false := by simp; omega
  have t60 : decide ((60 : Int) < (n : Int)) = false := by simp; omega
  have l80 : decide ((80 : Int) ≤ (n : Int)) = false := by simp; omega
  have t80 : decide ((80 : Int) < (n : Int)) = false := by simp; omega
  go_enter Tryd.func86, Tryd.ntmps86
  go_wp2_with fail
  refine wp_loop_rounds 3 ?_
  rw [rounds_succ]
  go_wp2_with fail
  refine (SI.out d0 _ R0.out 0 20 (by omega) (by omega) (fun k k0 k1 => I0.out k (by omega) (by omega))).mono ?_
  rintro e1 w1 ⟨rfl, d1, m1, r1⟩
  have F1_0 : Sd v (fOf d1) 0 20 := Idn.sd (fun k k0 k1 => I0.out k (by omega) (by omega)) m1
  have F1_1 : Idn (fOf d1) 20 n := Idn.keep (show Idn (fOf d0) 20 n from fun k k0 k1 => I0.out k (by omega) (by omega)) m1 (by omega)
  have F1_0 := Lib.hid F1_0
  have F1_1 := Lib.hid F1_1
  have R1 := Lib.hid r1
  clear m1 r1
  go_wp2_with fail
  rw [rounds_succ]
  go_wp2_with fail
  refine (SI.out d1 _ R1.out 20 40 (by omega) (by omega) (fun k k0 k1 => F1_1.out k (by omega) (by omega))).mono ?_
  rintro e2 w2 ⟨rfl, d2, m2, r2⟩
  have F2_0 : Sd v (fOf d2) 20 40 := Idn.sd (fun k k0 k1 => F1_1.out k (by omega) (by omega)) m2
  have F2_1 : Sd v (fOf d2) 0 20 := Sd.keep F1_0.out m2 (by omega)
  have F2_2 : Idn (fOf d2) 40 n := Idn.keep (show Idn (fOf d1) 40 n from fun k k0 k1 => F1_1.out k (by omega) (by omega)) m2 (by omega)
  have F2_0 := Lib.hid F2_0
  have F2_1 := Lib.hid F2_1
  have F2_2 := Lib.hid F2_2
  have R2 := Lib.hid r2
  clear m2 r2
  go_wp2_with fail
  rw [rounds_succ]
  go_wp2_with fail
  refine (SI.out d2 _ R2.out 40 n (by omega) (by omega) (fun k k0 k1 => F2_2.out k (by omega) (by omega))).mono ?_
  rintro e3 w3 ⟨rfl, d3, m3, r3⟩
  have F3_0 : Sd v (fOf d3) 40 n := Idn.sd (fun k k0 k1 => F2_2.out k (by omega) (by omega)) m3
  have F3_1 : Sd v (fOf d3) 20 40 := Sd.keep F2_0.out m3 (by omega)
  have F3_2 : Sd v (fOf d3) 0 20 := Sd.keep F2_1.out m3 (by omega)
  have F3_0 := Lib.hid F3_0
  have F3_1 := Lib.hid F3_1
  have F3_2 := Lib.hid F3_2
  have R3 := Lib.hid r3
  clear m3 r3
  go_wp2_with fail
  refine wp_loop_rounds 3 ?_
  rw [rounds_succ]
  go_wp2_with fail
  refine wp_loop_rounds 2 ?_
  rw [rounds_succ]
  go_wp2_with fail
  refine (SS.out d3 _ R3.out 0 20 40 (by omega) (by omega) (by omega) F3_2.out F3_1.out).mono ?_
  rintro e4 w4 ⟨rfl, d4, m4, r4⟩
  have F4_0 : Sd v (fOf d4) 0 40 := Sd.merge F3_2.out F3_1.out (by omega) (by omega) m4
  have F4_1 : Sd v (fOf d4) 40 n := Sd.keep F3_0.out m4 (by omega)
  have F4_0 := Lib.hid F4_0
  have F4_1 := Lib.hid F4_1
  have R4 := Lib.hid r4
  clear m4 r4
  go_wp2_with fail
  rw [rounds_succ]
  go_wp2_with fail
  rw [rounds_succ]
  go_wp2_with fail
  refine wp_loop_rounds 1 ?_
  rw [rounds_succ]
  go_wp2_with fail
  refine (SS.out d4 _ R4.out 0 40 n (by omega) (by omega) (by omega) F4_0.out F4_1.out).mono ?_
  rintro e5 w5 ⟨rfl, d5, m5, r5⟩
  have F5_0 : Sd v (fOf d5) 0 n := Sd.merge F4_0.out F4_1.out (by omega) (by omega) m5
  have F5_0 := Lib.hid F5_0
  have R5 := Lib.hid r5
  clear m5 r5
  go_wp2_with fail
  rw [rounds_succ]
  go_wp2_with fail
  go_end0
  exact ⟨rfl, d5, F5_0.out, R5.out⟩

set_option maxHeartbeats 8000000 in
set_option maxRecDepth 1000000 in
theorem stable_F {m : Nat} {w : World} {blk : Nat} {d0 : Array (Fin (m + 1))} {g : Nat} {cb : Array Value} {v : Nat → Int} {cap : Nat} (S : StepsOn m w blk d0 g cb v cap) (r0 : Rw m w blk d0 d0 w) (hid : Idn (fOf d0) 0 d0.size) (hc : d0.size = 60) :
    Calls Tryd.prog 86 #[.slice (some ⟨blk, 0, none⟩) d0.size cap, .int .i64 d0.size, .func (.func g) #[] cb] w fun e w' =>
      e = .returned (.tuple #[]) ∧ ∃ d', Sd v (fOf d') 0 d0.size ∧ Rw m w blk d0 d' w' := by
  have SI := S.ins
  have SS := S.sym
  obtain ⟨n, hn⟩ : ∃ x, d0.size = x := ⟨_, rfl⟩
  rw [hn] at SI SS hid hc ⊢
  have SI := Lib.hid SI
  have SS := Lib.hid SS
  have I0 := Lib.hid hid
  have R0 := Lib.hid r0
  clear S hid r0 hn
  have l20 : decide ((20 : Int) ≤ (n : Int)) = true := by simp; omega
  have t20 : decide ((20 : Int) < (n : Int)) = true := by simp; omega
  have l40 : decide ((40 : Int) ≤ (n : Int)) = true := by simp; omega
  have t40 : decide ((40 : Int) < (n : Int)) = true := by simp; omega
  have l60 : decide ((60 : Int) ≤ (n : Int)) = true := by simp; omega
  have t60 : decide ((60 : Int) < (n : Int)) = false := by simp; omega
  have l80 : decide ((80 : Int) ≤ (n : Int)) = false := by simp; omega
  have t80 : decide ((80 : Int) < (n : Int)) = false := by simp; omega
  have hc1 : 60 ≤ n := by omega
  have hc2 : n ≤ 60 := by omega
  clear hc
  go_enter Tryd.func86, Tryd.ntmps86
  go_wp2_with fail
  refine wp_loop_rounds 4 ?_
  rw [rounds_succ]
  go_wp2_with fail
  refine (SI.out d0 _ R0.out 0 20 (by omega) (by omega) (fun k k0 k1 => I0.out k (by omega) (by omega))).mono ?_
  rintro e1 w1 ⟨rfl, d1, m1, r1⟩
  have F1_0 : Sd v (fOf d1) 0 20 := Idn.sd (fun k k0 k1 => I0.out k (by omega) (by omega)) m1
  have F1_1 : Idn (fOf d1) 20 n := Idn.keep (show Idn (fOf d0) 20 n from fun k k0 k1 => I0.out k (by omega) (by omega)) m1 (by omega)
  have F1_0 := Lib.hid F1_0
  have F1_1 := Lib.hid F1_1
  have R1 := Lib.hid r1
  clear m1 r1
  go_wp2_with fail
  rw [rounds_succ]
  go_wp2_with fail
  refine (SI.out d1 _ R1.out 20 40 (by omega) (by omega) (fun k k0 k1 => F1_1.out k (by omega) (by omega))).mono ?_
  rintro e2 w2 ⟨rfl, d2, m2, r2⟩
  have F2_0 : Sd v (fOf d2) 20 40 := Idn.sd (fun k k0 k1 => F1_1.out k (by omega) (by omega)) m2
  have F2_1 : Sd v (fOf d2) 0 20 := Sd.keep F1_0.out m2 (by omega)
  have F2_2 : Idn (fOf d2) 40 n := Idn.keep (show Idn (fOf d1) 40 n from fun k k0 k1 => F1_1.out k (by omega) (by omega)) m2 (by omega)
  have F2_0 := Lib.hid F2_0
  have F2_1 := Lib.hid F2_1
  have F2_2 := Lib.hid F2_2
  have R2 := Lib.hid r2
  clear m2 r2
  go_wp2_with fail
  rw [rounds_succ]
  go_wp2_with fail
  refine (SI.out d2 _ R2.out 40 60 (by omega) (by omega) (fun k k0 k1 => F2_2.out k (by omega) (by omega))).mono ?_
  rintro e3 w3 ⟨rfl, d3, m3, r3⟩
  have F3_0 : Sd v (fOf d3) 40 60 := Idn.sd (fun k k0 k1 => F2_2.out k (by omega) (by omega)) m3
  have F3_1 : Sd v (fOf d3) 20 40 := Sd.keep F2_0.out m3 (by omega)
  have F3_2 : Sd v (fOf d3) 0 20 := Sd.keep F2_1.out m3 (by omega)
  have F3_0 := Lib.hid F3_0
  have F3_1 := Lib.hid F3_1
  have F3_2 := Lib.hid F3_2
  have R3 := Lib.hid r3
  clear m3 r3
  go_wp2_with fail
  rw [rounds_succ]
  go_wp2_with fail
  refine (SI.out d3 _ R3.out 60 n (by omega) (by omega) (fun k k0 k1 => by omega)).mono ?_
  rintro e4 w4 ⟨rfl, d4, m4, r4⟩
  have F4_1 : Sd v (fOf d4) 40 60 := Sd.keep F3_0.out m4 (by omega)
  have F4_2 : Sd v (fOf d4) 20 40 := Sd.keep F3_1.out m4 (by omega)
  have F4_3 : Sd v (fOf d4) 0 20 := Sd.keep F3_2.out m4 (by omega)
  have F4_1 := Lib.hid F4_1
  have F4_2 := Lib.hid F4_2
  have F4_3 := Lib.hid F4_3
  have R4 := Lib.hid r4
  clear m4 r4
  go_wp2_with fail
  refine wp_loop_rounds 3 ?_
  rw [rounds_succ]
  go_wp2_with fail
  refine wp_loop_rounds 2 ?_
  rw [rounds_succ]
  go_wp2_with fail
  refine (SS.out d4 _ R4.out 0 20 40 (by omega) (by omega) (by omega) F4_3.out F4_2.out).mono ?_
  rintro e5 w5 ⟨rfl, d5, m5, r5⟩
  have F5_0 : Sd v (fOf d5) 0 40 := Sd.merge F4_3.out F4_2.out (by omega) (by omega) m5
  have F5_1 : Sd v (fOf d5) 40 60 := Sd.keep F4_1.out m5 (by omega)
  have F5_0 := Lib.hid F5_0
  have F5_1 := Lib.hid F5_1
  have R5 := Lib.hid r5
  clear m5 r5
  go_wp2_with fail
  rw [rounds_succ]
  go_wp2_with fail
  rw [rounds_succ]
  go_wp2_with fail
  refine wp_loop_rounds 1 ?_
  rw [rounds_succ]
  go_wp2_with fail
  refine (SS.out d5 _ R5.out 0 40 n (by omega) (by omega) (by omega) F5_0.out (show Sd v (fOf d5) 40 n by have h := F5_1.out; rw [show n = 60 by omega]; exact h)).mono ?_
  rintro e6 w6 ⟨rfl, d6, m6, r6⟩
  have F6_0 : Sd v (fOf d6) 0 n := Sd.merge F5_0.out (show Sd v (fOf d5) 40 n by have h := F5_1.out; rw [show n = 60 by omega]; exact h) (by omega) (by omega) m6
  have F6_0 := Lib.hid F6_0
  have R6 := Lib.hid r6
  clear m6 r6
  go_wp2_with fail
  rw [rounds_succ]
  go_wp2_with fail
  go_end0
  exact ⟨rfl, d6, F6_0.out, R6.out⟩

set_option maxHeartbeats 8000000 in
set_option maxRecDepth 1000000 in
theorem stable_G {m : Nat} {w : World} {blk : Nat} {d0 : Array (Fin (m + 1))} {g : Nat} {cb : Array Value} {v : Nat → Int} {cap : Nat} (S : StepsOn m w blk d0 g cb v cap) (r0 : Rw m w blk d0 d0 w) (hid : Idn (fOf d0) 0 d0.size) (hc : 60 < d0.size ∧ d0.size ≤ 64) :
    Calls Tryd.prog 86 #[.slice (some ⟨blk, 0, none⟩) d0.size cap, .int .i64 d0.size, .func (.func g) #[] cb] w fun e w' =>
      e = .returned (.tuple #[]) ∧ ∃ d', Sd v (fOf d') 0 d0.size ∧ Rw m w blk d0 d' w' := by
  have SI := S.ins
  have SS := S.sym
  obtain ⟨n, hn⟩ : ∃ x, d0.size = x := ⟨_, rfl⟩
  rw [hn] at SI SS hid hc ⊢
  have SI := Lib.hid SI
  have SS := Lib.hid SS
  have I0 := Lib.hid hid
  have R0 := Lib.hid r0
  clear S hid r0 hn
  have l20 : decide ((20 : Int) ≤ (n : Int)) = true := by simp; omega
  have t20 : decide ((20 : Int) < (n : Int)) = true := by simp; omega
  have l40 : decide ((40 : Int) ≤ (n : Int)) = true := by simp; omega
  have t40 : decide ((40 : Int) < (n : Int)) = true := by simp; omega
  have l60 : decide ((60 : Int) ≤ (n : Int)) = true := by simp; omega
  have t60 : decide ((60 : Int) < (n : Int)) = true := by simp; omega
  have l80 : decide ((80 : Int) ≤ (n : Int)) = false := by simp; omega
  have t80 : decide ((80 : Int) < (n : Int)) = false := by simp; omega
  go_enter Tryd.func86, Tryd.ntmps86
  go_wp2_with fail
  refine wp_loop_rounds 4 ?_
  rw [rounds_succ]
  go_wp2_with fail
  refine (SI.out d0 _ R0.out 0 20 (by omega) (by omega) (fun k k0 k1 => I0.out k (by omega) (by omega))).mono ?_
  rintro e1 w1 ⟨rfl, d1, m1, r1⟩
  have F1_0 : Sd v (fOf d1) 0 20 := Idn.sd (fun k k0 k1 => I0.out k (by omega) (by omega)) m1
  have F1_1 : Idn (fOf d1) 20 n := Idn.keep (show Idn (fOf d0) 20 n from fun k k0 k1 => I0.out k (by omega) (by omega)) m1 (by omega)
  have F1_0 := Lib.hid F1_0
  have F1_1 := Lib.hid F1_1
  have R1 := Lib.hid r1
  clear m1 r1
  go_wp2_with fail
  rw [rounds_succ]
  go_wp2_with fail
  refine (SI.out d1 _ R1.out 20 40 (by omega) (by omega) (fun k k0 k1 => F1_1.out k (by omega) (by omega))).mono ?_
  rintro e2 w2 ⟨rfl, d2, m2, r2⟩
  have F2_0 : Sd v (fOf d2) 20 40 := Idn.sd (fun k k0 k1 => F1_1.out k (by omega) (by omega)) m2
  have F2_1 : Sd v (fOf d2) 0 20 := Sd.keep F1_0.out m2 (by omega)
  have F2_2 : Idn (fOf d2) 40 n := Idn.keep (show Idn (fOf d1) 40 n from fun k k0 k1 => F1_1.out k (by omega) (by omega)) m2 (by omega)
  have F2_0 := Lib.hid F2_0
  have F2_1 := Lib.hid F2_1
  have F2_2 := Lib.hid F2_2
  have R2 := Lib.hid r2
  clear m2 r2
  go_wp2_with fail
  rw [rounds_succ]
  go_wp2_with fail
  refine (SI.out d2 _ R2.out 40 60 (by omega) (by omega) (fun k k0 k1 => F2_2.out k (by omega) (by omega))).mono ?_
  rintro e3 w3 ⟨rfl, d3, m3, r3⟩
  have F3_0 : Sd v (fOf d3) 40 60 := Idn.sd (fun k k0 k1 => F2_2.out k (by omega) (by omega)) m3
  have F3_1 : Sd v (fOf d3) 20 40 := Sd.keep F2_0.out m3 (by omega)
  have F3_2 : Sd v (fOf d3) 0 20 := Sd.keep F2_1.out m3 (by omega)
  have F3_3 : Idn (fOf d3) 60 n := Idn.keep (show Idn (fOf d2) 60 n from fun k k0 k1 => F2_2.out k (by omega) (by omega)) m3 (by omega)
  have F3_0 := Lib.hid F3_0
  have F3_1 := Lib.hid F3_1
  have F3_2 := Lib.hid F3_2
  have F3_3 := Lib.hid F3_3
  have R3 := Lib.hid r3
  clear m3 r3
  go_wp2_with fail
  rw [rounds_succ]
  go_wp2_with fail
  refine (SI.out d3 _ R3.out 60 n (by omega) (by omega) (fun k k0 k1 => F3_3.out k (by omega) (by omega))).mono ?_
  rintro e4 w4 ⟨rfl, d4, m4, r4⟩
  have F4_0 : Sd v (fOf d4) 60 n := Idn.sd (fun k k0 k1 => F3_3.out k (by omega) (by omega)) m4
  have F4_1 : Sd v (fOf d4) 40 60 := Sd.keep F3_0.out m4 (by omega)
  have F4_2 : Sd v (fOf d4) 20 40 := Sd.keep F3_1.out m4 (by omega)
  have F4_3 : Sd v (fOf d4) 0 20 := Sd.keep F3_2.out m4 (by omega)
  have F4_0 := Lib.hid F4_0
  have F4_1 := Lib.hid F4_1
  have F4_2 := Lib.hid F4_2
  have F4_3 := Lib.hid F4_3
  have R4 := Lib.hid r4
  clear m4 r4
  go_wp2_with fail
  refine wp_loop_rounds 3 ?_
  rw [rounds_succ]
  go_wp2_with fail
  refine wp_loop_rounds 2 ?_
  rw [rounds_succ]
  go_wp2_with fail
  refine (SS.out d4 _ R4.out 0 20 40 (by omega) (by omega) (by omega) F4_3.out F4_2.out).mono ?_
  rintro e5 w5 ⟨rfl, d5, m5, r5⟩
  have F5_0 : Sd v (fOf d5) 0 40 := Sd.merge F4_3.out F4_2.out (by omega) (by omega) m5
  have F5_1 : Sd v (fOf d5) 60 n := Sd.keep F4_0.out m5 (by omega)
  have F5_2 : Sd v (fOf d5) 40 60 := Sd.keep F4_1.out m5 (by omega)
  have F5_0 := Lib.hid F5_0
  have F5_1 := Lib.hid F5_1
  have F5_2 := Lib.hid F5_2
  have R5 := Lib.hid r5
  clear m5 r5
  go_wp2_with fail
  rw [rounds_succ]
  go_wp2_with fail
  refine (SS.out d5 _ R5.out 40 60 n (by omega) (by omega) (by omega) F5_2.out F5_1.out).mono ?_
  rintro e6 w6 ⟨rfl, d6, m6, r6⟩
  have F6_0 : Sd v (fOf d6) 40 n := Sd.merge F5_2.out F5_1.out (by omega) (by omega) m6
  have F6_1 : Sd v (fOf d6) 0 40 := Sd.keep F5_0.out m6 (by omega)
  have F6_0 := Lib.hid F6_0
  have F6_1 := Lib.hid F6_1
  have R6 := Lib.hid r6
  clear m6 r6
  go_wp2_with fail
  rw [rounds_succ]
  go_wp2_with fail
  refine wp_loop_rounds 1 ?_
  rw [rounds_succ]
  go_wp2_with fail
  refine (SS.out d6 _ R6.out 0 40 n (by omega) (by omega) (by omega) F6_1.out F6_0.out).mono ?_
  rintro e7 w7 ⟨rfl, d7, m7, r7⟩
  have F7_0 : Sd v (fOf d7) 0 n := Sd.merge F6_1.out F6_0.out (by omega) (by omega) m7
  have F7_0 := Lib.hid F7_0
  have R7 := Lib.hid r7
  clear m7 r7
  go_wp2_with fail
  rw [rounds_succ]
  go_wp2_with fail
  go_end0
  exact ⟨rfl, d7, F7_0.out, R7.out⟩

theorem stable_all {m : Nat} {w : World} {blk : Nat} {d0 : Array (Fin (m + 1))} {g : Nat} {cb : Array Value} {v : Nat → Int} {cap : Nat} (S : StepsOn m w blk d0 g cb v cap) (r0 : Rw m w blk d0 d0 w) (hid : Idn (fOf d0) 0 d0.size) (hsz : d0.size ≤ 64) :
    Calls Tryd.prog 86 #[.slice (some ⟨blk, 0, none⟩) d0.size cap, .int .i64 d0.size, .func (.func g) #[] cb] w fun e w' =>
      e = .returned (.tuple #[]) ∧ ∃ d', Sd v (fOf d') 0 d0.size ∧ Rw m w blk d0 d' w' := by
  by_cases c1 : d0.size < 20
  · exact stable_A S r0 hid c1
  · by_cases c2 : d0.size = 20
    · exact stable_B S r0 hid c2
    · by_cases c3 : d0.size < 40
      · exact stable_C S r0 hid ⟨by omega, c3⟩
      · by_cases c4 : d0.size = 40
        · exact stable_D S r0 hid c4
        · by_cases c5 : d0.size < 60
          · exact stable_E S r0 hid ⟨by omega, c5⟩
          · by_cases c6 : d0.size = 60
            · exact stable_F S r0 hid c6
            · exact stable_G S r0 hid ⟨by omega, hsz⟩

set_option maxHeartbeats 2000000 in
theorem sort_all {m : Nat} {w : World} {blk : Nat} {d0 : Array (Fin (m + 1))} {g : Nat} {cb : Array Value} {v : Nat → Int} {cf : Fin (m + 1) → Fin (m + 1) → Int} (hcmp : CmpReads Tryd.prog g cb (encF m) cf blk 0 d0.size w)
    (eg : ∀ args w, (callFunc g args).run Tryd.prog w = .ok (.enter g args) w) (hcf : ∀ x y : Fin (m + 1), cf x y < 0 ↔ v y.val < v x.val) (hH : Holds (encF m) w blk 0 d0) (hsz : d0.size ≤ 64) (cap : Nat) (hid : Idn (fOf d0) 0 d0.size) :
    Calls Tryd.prog 77 #[.slice (some ⟨blk, 0, none⟩) d0.size cap, .func (.func g) #[] cb] w fun e w' =>
      e = .returned (.tuple #[]) ∧ ∃ d', Sd v (fOf d') 0 d0.size ∧ Rw m w blk d0 d' w' := by
  have hcon := stable_all (steps_on hcmp eg hcf hH hsz cap) (Rw.start hH) hid hsz
  obtain ⟨n, hn⟩ : ∃ n, d0.size = n := ⟨_, rfl⟩
  rw [hn] at hcon hsz ⊢
  have hcon := Lib.hid hcon
  clear hcmp hH hn hid
  go_enter Tryd.func77, Tryd.ntmps77
  go_wp2_with fail
  refine (hcon.out).mono ?_
  rintro e w1 ⟨rfl, d1, s1, r1⟩
  have S1 := Lib.hid s1
  have R1 := Lib.hid r1
  clear s1 r1
  go_wp2_with fail
  go_end0
  exact ⟨rfl, d1, S1.out, R1.out⟩
end Go.Proofs.YtjhfbnndapopgaaDoor

/- Sums over a reordering; who stands in front has something left over. Plain. -/
namespace Go.Proofs.YtjhfbnndapopgaaDoor
open WM

def sumN : Nat → (Nat → Int) → Int
  | 0, _ => 0
  | k + 1, g => sumN k g + g k
theorem sumN_congr {n : Nat} {g h : Nat → Int} (e : ∀ k, k < n → g k = h k) : sumN n g = sumN n h := by
  induction n with
  | zero => rfl
  | succ n ih => rw [sumN, sumN, ih (fun k hk => e k (by omega)), e n (by omega)]
theorem sumN_change {n x : Nat} {g h : Nat → Int} (hx : x < n) (e : ∀ k, k < n → k ≠ x → g k = h k) : sumN n g = sumN n h + (g x - h x) := by
  induction n with
  | zero => omega
  | succ n ih =>
    rw [sumN, sumN]
    by_cases c : x = n
    · subst c
      rw [sumN_congr (fun k hk => e k (by omega) (by omega))]; omega
    · rw [ih (by omega) (fun k hk ne => e k (by omega) ne), e n (by omega) (by omega)]; omega
theorem inj_onto : ∀ (n : Nat) (f : Nat → Nat), (∀ x, x < n → f x < n) → (∀ x y, x < n → y < n → f x = f y → x = y) → ∀ y, y < n → ∃ x, x < n ∧ f x = y := by
  intro n
  induction n with
  | zero => intro f _ _ y hy; omega
  | succ k ih =>
    intro f hf hi y hy
    have hc := hf k (by omega)
    have h1 : ∀ x, x < k → (if f x = k then f k else f x) < k := by
      intro x hx
      have a := hf x (by omega)
      have b : f x ≠ f k := fun e => by have := hi x k (by omega) (by omega) e; omega
      split <;> omega
    have h2 : ∀ x z, x < k → z < k → (if f x = k then f k else f x) = (if f z = k then f k else f z) → x = z := by
      intro x z hx hz e
      have bx : f x ≠ f k := fun e => by have := hi x k (by omega) (by omega) e; omega
      have bz : f z ≠ f k := fun e => by have := hi z k (by omega) (by omega) e; omega
      apply hi x z (by omega) (by omega)
      split at e <;> split at e <;> omega
    have S := ih (fun x => if f x = k then f k else f x) h1 h2
    by_cases c : y = f k
    · exact ⟨k, by omega, c.symm⟩
    · by_cases d : y = k
      · obtain ⟨x, x0, x1⟩ := S (f k) (by omega)
        have bx : f x ≠ f k := fun e => by have := hi x k (by omega) (by omega) e; omega
        refine ⟨x, by omega, ?_⟩
        split at x1 <;> omega
      · obtain ⟨x, x0, x1⟩ := S y (by omega)
        refine ⟨x, by omega, ?_⟩
        split at x1 <;> omega
theorem sumN_bij (g : Nat → Int) : ∀ (n : Nat) (f : Nat → Nat), (∀ x, x < n → f x < n) → (∀ x y, x < n → y < n → f x = f y → x = y) → sumN n (fun k => g (f k)) = sumN n g := by
  intro n
  induction n with
  | zero => intro f _ _; rfl
  | succ k ih =>
    intro f hf hi
    have hc := hf k (by omega)
    have h1 : ∀ x, x < k → (if f x = k then f k else f x) < k := by
      intro x hx
      have a := hf x (by omega)
      have b : f x ≠ f k := fun e => by have := hi x k (by omega) (by omega) e; omega
      split <;> omega
    have h2 : ∀ x z, x < k → z < k → (if f x = k then f k else f x) = (if f z = k then f k else f z) → x = z := by
      intro x z hx hz e
      have bx : f x ≠ f k := fun e => by have := hi x k (by omega) (by omega) e; omega
      have bz : f z ≠ f k := fun e => by have := hi z k (by omega) (by omega) e; omega
      apply hi x z (by omega) (by omega)
      split at e <;> split at e <;> omega
    have S := ih (fun x => if f x = k then f k else f x) h1 h2
    rw [sumN, sumN, ← S]
    by_cases c : f k = k
    · rw [c]
      congr 1
      apply sumN_congr
      intro x hx
      by_cases d : f x = k
      · rw [if_pos d, d]
      · rw [if_neg d]
    · obtain ⟨x, x0, x1⟩ := inj_onto (k + 1) f hf hi k (by omega)
      have xk : x < k := by
        by_cases q : x = k
        · rw [q] at x1; exact absurd x1 c
        · omega
      have := sumN_change (g := fun y => g (if f y = k then f k else f y)) (h := fun y => g (f y)) xk (by
        intro y hy ne
        have : f y ≠ k := fun e => ne (hi y x (by omega) (by omega) (by rw [e, x1]))
        show g (if f y = k then f k else f y) = g (f y)
        rw [if_neg this])
      rw [this]
      simp only [x1, if_true]
      omega
theorem Sd.inj {v : Nat → Int} {h : Nat → Nat} {n : Nat} (H : Sd v h 0 n) : ∀ x y, x < n → y < n → h x = h y → x = y := by
  intro x y hx hy e
  by_cases c : x = y
  · exact c
  · by_cases l : x < y
    · exact absurd e (bef_ne (H.sorted x y (by omega) l hy))
    · exact absurd e.symm (bef_ne (H.sorted y x (by omega) (by omega) hx))
theorem sumN_front {g : Nat → Int} {s : Int} (hs : 0 ≤ s) {j : Nat} : ∀ n, (∀ k, k < n → k < j → g k ≤ s) → (∀ k, k < n → j ≤ k → g k ≤ 0) → sumN n g ≤ j * s := by
  have key : ∀ n, (∀ k, k < n → k < j → g k ≤ s) → (∀ k, k < n → j ≤ k → g k ≤ 0) → sumN n g ≤ (min n j : Nat) * s := by
    intro n
    induction n with
    | zero => intro _ _; simp [sumN]
    | succ n ih =>
      intro h1 h2
      have i := ih (fun k hk => h1 k (by omega)) (fun k hk => h2 k (by omega))
      rw [sumN]
      by_cases c : n < j
      · have := h1 n (by omega) c
        rw [show min (n + 1) j = n + 1 by omega]
        rw [show min n j = n by omega] at i
        rw [show ((n + 1 : Nat) : Int) * s = n * s + s by rw [Int.natCast_add, Int.add_mul]; simp]
        omega
      · have := h2 n (by omega) (by omega)
        rw [show min (n + 1) j = j by omega]
        rw [show min n j = j by omega] at i
        omega
  intro n h1 h2
  have i := key n h1 h2
  have : ((min n j : Nat) : Int) * s ≤ (j : Int) * s := Int.mul_le_mul_of_nonneg_right (by omega) hs
  omega
/-- Whoever gets a unit that is left had something left over. -/
theorem front_pos {v : Nat → Int} {f : Nat → Nat} {n L : Nat} {t : Int} (h : Sd v f 0 n) (hv : ∀ i, i < n → 0 ≤ v i ∧ v i < t) (hs : sumN n v = L * t) (ht : 1 ≤ t) : ∀ j, j < L → j < n → 0 < v (f j) := by
  intro j hjL hjn
  by_cases c : 0 < v (f j)
  · exact c
  · exfalso
    have e := sumN_bij v n f (fun x hx => (h.own x (by omega) hx).2) h.inj
    have u : sumN n (fun k => v (f k)) ≤ j * (t - 1) := by
      refine sumN_front (by omega) n (fun k hk _ => ?_) (fun k hk hjk => ?_)
      · have := (hv (f k) (h.own k (by omega) hk).2).2; omega
      · by_cases q : k = j
        · subst q; omega
        · have b := h.sorted j k (by omega) (by omega) hk
          unfold bef at b; omega
    rw [e, hs] at u
    have u1 : (j : Int) * (t - 1) ≤ j * t := Int.mul_le_mul_of_nonneg_left (by omega) (by omega)
    have u2 : (j : Int) * t < L * t := Int.mul_lt_mul_of_pos_right (by omega) (by omega)
    omega
theorem front_few {v : Nat → Int} {n L : Nat} {t : Int} (hn : 0 < n) (hv : ∀ i, i < n → 0 ≤ v i ∧ v i < t) (hs : sumN n v = L * t) (ht : 1 ≤ t) : L < n := by
  have u : sumN n v ≤ n * (t - 1) := sumN_front (by omega) n (fun k hk _ => by have := (hv k hk).2; omega) (fun k hk h => by omega)
  rw [hs] at u
  by_cases c : L < n
  · exact c
  · exfalso
    have u1 : (n : Int) * (t - 1) < n * t := Int.mul_lt_mul_of_pos_left (by omega) (by omega)
    have u2 : (n : Int) * t ≤ L * t := Int.mul_le_mul_of_nonneg_right (by omega) (by omega)
    omega
end Go.Proofs.YtjhfbnndapopgaaDoor
