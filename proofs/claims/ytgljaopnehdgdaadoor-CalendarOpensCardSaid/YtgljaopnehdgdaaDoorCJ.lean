/-
  Lists that ascend, each number once: that there is one for each set of numbers; names; what Check says.
-/
import Derived.Test.YtgljaopnehdgdaaDoorCM
import Derived.Lib.SlicesCompact
namespace Go.Proofs.YtgljaopnehdgdaaDoor.WM
open Go Go.RowKit Go.Lib

/-- Each number is greater than the one before it. -/
def RisesI (l : List Int) : Prop := ∀ i, 1 ≤ i → i < l.length → l.getD (i - 1) 0 < l.getD i 0
instance (l : List Int) : Decidable (RisesI l) :=
  decidable_of_iff (∀ i, i < l.length → 1 ≤ i → l.getD (i - 1) 0 < l.getD i 0) ⟨fun h i a b => h i b a, fun h i a b => h i b a⟩
def risesB (l : List Int) : Bool := decide (RisesI l)
theorem rises_yes (l : List Int) (h : RisesI l) : risesB l = true := by simpa [risesB] using h
theorem rises_no (l : List Int) (i : Nat) (h1 : 1 ≤ i) (h2 : i < l.length) (h : l.getD i 0 ≤ l.getD (i - 1) 0) : risesB l = false := by
  simp only [risesB, decide_eq_false_iff_not]
  intro c
  have := c i h1 h2
  omega
theorem rises_lt {l : List Int} (h : RisesI l) (k : Nat) : ∀ i j, i + k + 1 = j → j < l.length → l.getD i 0 < l.getD j 0 := by
  induction k with
  | zero => intro i j e hj; have := h j (by omega) hj; rw [show j - 1 = i by omega] at this; exact this
  | succ k ih =>
    intro i j e hj
    have a := ih i (j - 1) (by omega) (by omega)
    have b := h j (by omega) hj
    omega
theorem rises_pw {l : List Int} (h : RisesI l) : l.Pairwise (· < ·) := by
  rw [List.pairwise_iff_getElem]
  intro i j hi hj hij
  have := rises_lt h (j - i - 1) i j (by omega) hj
  simpa [List.getD, hi, hj] using this
theorem pw_rises {l : List Int} (h : l.Pairwise (· < ·)) : RisesI l := by
  intro i h1 h2
  rw [List.pairwise_iff_getElem] at h
  have := h (i - 1) i (by omega) h2 (by omega)
  have h3 : i - 1 < l.length := by omega
  simpa [List.getD, h2, h3] using this
theorem pw_ext : ∀ {s t : List Int}, s.Pairwise (· < ·) → t.Pairwise (· < ·) → (∀ x, x ∈ s ↔ x ∈ t) → s = t := by
  intro s
  induction s with
  | nil =>
    intro t _ _ h
    cases t with
    | nil => rfl
    | cons b t => exact absurd ((h b).2 (by simp)) (by simp)
  | cons a s ih =>
    intro t hs ht h
    cases t with
    | nil => exact absurd ((h a).1 (by simp)) (by simp)
    | cons b t =>
      rw [List.pairwise_cons] at hs ht
      have hab : a = b := by
        have h1 := (h a).1 (by simp)
        have h2 := (h b).2 (by simp)
        rw [List.mem_cons] at h1 h2
        rcases h1 with h1 | h1
        · exact h1
        · rcases h2 with h2 | h2
          · exact h2.symm
          · have := ht.1 a h1; have := hs.1 b h2; omega
      subst hab
      congr 1
      apply ih hs.2 ht.2
      intro x
      constructor
      · intro hx
        have := (h x).1 (List.mem_cons_of_mem _ hx)
        rw [List.mem_cons] at this
        rcases this with e | e
        · have := hs.1 x hx; omega
        · exact e
      · intro hx
        have := (h x).2 (List.mem_cons_of_mem _ hx)
        rw [List.mem_cons] at this
        rcases this with e | e
        · have := ht.1 x hx; omega
        · exact e

/-- The numbers of a list, ascending, each once. -/
def normI (l : List Int) : List Int := Lib.compact (l.mergeSort fun x y => decide (x ≤ y))
theorem sort_pw (l : List Int) : (l.mergeSort fun x y => decide (x ≤ y)).Pairwise (fun a b => a ≤ b) := by
  have h := List.pairwise_mergeSort (le := fun x y : Int => decide (x ≤ y)) (fun a b c h1 h2 => by simp at *; omega) (fun a b => by simp; omega) l
  exact h.imp (fun h => by simpa using h)
theorem comp_pw (d : Array Int) (hd : d.toList.Pairwise (fun a b => a ≤ b)) (m : Nat) (hm : m ≤ d.size) :
    (Lib.compactUpTo d m).Pairwise (· < ·) ∧ (∀ x ∈ Lib.compactUpTo d m, 0 < m ∧ x ≤ d[m - 1]!) ∧ ∀ j, j < m → d[j]! ∈ Lib.compactUpTo d m := by
  induction m with
  | zero => exact ⟨List.Pairwise.nil, by intro x hx; simp [Lib.compactUpTo] at hx, by intro j hj; omega⟩
  | succ m ih =>
    obtain ⟨a, b, c⟩ := ih (by omega)
    rw [Lib.compactUpTo_succ]
    have hle : ∀ i j, i < j → j < d.size → d[i]! ≤ d[j]! := by
      intro i j hij hj
      rw [List.pairwise_iff_getElem] at hd
      have := hd i j (by simpa using (by omega : i < d.size)) (by simpa using hj) hij
      have hi : i < d.size := by omega
      simpa [getElem!_pos, hi, hj] using this
    by_cases k : Lib.keeps d m = true
    · rw [k]
      simp only [if_true]
      refine ⟨?_, ?_, ?_⟩
      · rw [List.pairwise_append]
        refine ⟨a, by simp, ?_⟩
        intro x hx y hy
        rw [List.mem_singleton] at hy
        subst hy
        have h1 := b x hx
        have h2 := hle (m - 1) m (by omega) (by omega)
        have h3 : d[m]! ≠ d[m - 1]! := by
          have := k
          simp only [Lib.keeps, decide_eq_true_eq] at this
          rcases this with e | e
          · omega
          · exact e
        omega
      · intro x hx
        rw [List.mem_append, List.mem_singleton] at hx
        refine ⟨by omega, ?_⟩
        rw [Nat.add_sub_cancel]
        rcases hx with e | e
        · have h1 := b x e
          have h2 := hle (m - 1) m (by omega) (by omega)
          omega
        · omega
      · intro j hj
        rw [List.mem_append, List.mem_singleton]
        by_cases e : j = m
        · subst e; exact Or.inr rfl
        · exact Or.inl (c j (by omega))
    · have k : Lib.keeps d m = false := by simpa using k
      have hk : 0 < m ∧ d[m]! = d[m - 1]! := by
        simp only [Lib.keeps, decide_eq_false_iff_not, not_or, Classical.not_not] at k
        exact ⟨by omega, k.2⟩
      rw [k]
      simp only [Bool.false_eq_true, if_false, List.append_nil]
      refine ⟨a, ?_, ?_⟩
      · intro x hx
        have h1 := b x hx
        refine ⟨by omega, ?_⟩
        rw [Nat.add_sub_cancel, hk.2]
        exact h1.2
      · intro j hj
        by_cases e : j = m
        · subst e; rw [hk.2]; exact c (j - 1) (by omega)
        · exact c j (by omega)
theorem comp_sub (d : Array Int) (m : Nat) (hm : m ≤ d.size) : ∀ x ∈ Lib.compactUpTo d m, x ∈ d.toList := by
  intro x hx
  simp only [Lib.compactUpTo, List.mem_map, List.mem_filter, List.mem_range] at hx
  obtain ⟨j, ⟨hj, _⟩, rfl⟩ := hx
  have : j < d.size := by omega
  simp [getElem!_pos, this]
theorem norm_pw (l : List Int) : (normI l).Pairwise (· < ·) := by
  have h := sort_pw l
  exact (comp_pw (l.mergeSort fun x y => decide (x ≤ y)).toArray (by simpa using h) _ (by simp)).1
theorem norm_mem (l : List Int) (x : Int) : x ∈ normI l ↔ x ∈ l := by
  have h := sort_pw l
  have hs : x ∈ (l.mergeSort fun x y => decide (x ≤ y)) ↔ x ∈ l := (List.mergeSort_perm l _).mem_iff
  rw [← hs]
  constructor
  · intro hx
    have := comp_sub _ _ (by simp) x hx
    simpa using this
  · intro hx
    obtain ⟨j, hj, e⟩ := List.getElem_of_mem hx
    have := (comp_pw (l.mergeSort fun x y => decide (x ≤ y)).toArray (by simpa using h) (l.mergeSort fun x y => decide (x ≤ y)).length (by simp)).2.2 j hj
    have e2 : (l.mergeSort fun x y => decide (x ≤ y)).toArray[j]! = x := by
      have : j < (l.mergeSort fun x y => decide (x ≤ y)).toArray.size := by simpa using hj
      rw [getElem!_pos _ j this]; simpa using e
    rw [e2] at this
    exact this
theorem norm_rises (l : List Int) : RisesI (normI l) := pw_rises (norm_pw l)
theorem norm_of (l s : List Int) (h : s.Pairwise (· < ·)) (hm : ∀ x, x ∈ s ↔ x ∈ l) : s = normI l := pw_ext h (norm_pw l) (fun x => by rw [hm x, norm_mem])
theorem norm_len (l : List Int) : (normI l).length ≤ l.length := by
  have h1 : (l.mergeSort fun x y => decide (x ≤ y)).length = l.length := by simp
  unfold normI Lib.compact Lib.compactUpTo
  rw [List.length_map]
  refine Nat.le_trans (List.length_filter_le _ _) ?_
  rw [List.length_range, h1]
  exact Nat.le_refl _
/-- As many different numbers as the list is long are all of its numbers. -/
theorem all_in : ∀ (s l : List Int), s.Pairwise (· < ·) → (∀ x ∈ s, x ∈ l) → l.length ≤ s.length → ∀ x ∈ l, x ∈ s := by
  have key : ∀ (s l : List Int), s.Pairwise (· < ·) → (∀ x ∈ s, x ∈ l) → ∀ x ∈ l, x ∉ s → s.length < l.length := by
    intro s
    induction s with
    | nil => intro l _ _ x hx _; exact List.length_pos_of_mem hx
    | cons a s ih =>
      intro l hs hl x hx hn
      rw [List.pairwise_cons] at hs
      have ha : a ∈ l := hl a (by simp)
      have hne : x ≠ a := fun e => hn (by rw [e]; simp)
      have := ih (l.erase a) hs.2 (fun y hy => by
        have h1 := hs.1 y hy
        exact (List.mem_erase_of_ne (by omega)).2 (hl y (List.mem_cons_of_mem _ hy))) x ((List.mem_erase_of_ne hne).2 hx) (fun h => hn (List.mem_cons_of_mem _ h))
      rw [List.length_erase_of_mem ha] at this
      have := List.length_pos_of_mem ha
      simp only [List.length_cons]
      omega
  intro s l hs hl hlen x hx
  by_cases c : x ∈ s
  · exact c
  · have := key s l hs hl x hx c; omega
theorem norm_contains (a b : List Int) (x : Int) : (normI (a ++ b)).contains x = (a.contains x || b.contains x) := by
  rw [Bool.eq_iff_iff]
  simp only [List.contains_iff_mem, Bool.or_eq_true, norm_mem, List.mem_append]
/-- A day is open in the join exactly if it is open in both. -/
theorem join_open (wa wb ha hb : List Int) (d : Int) : opB (normI (wa ++ wb)) (normI (ha ++ hb)) d = (opB wa ha d && opB wb hb d) := by
  unfold opB dOpen
  rw [norm_contains, norm_contains]
  cases vdB d <;> cases wa.contains (wdI d) <;> cases wb.contains (wdI d) <;> cases ha.contains d <;> cases hb.contains d <;> rfl

def letB (c : UInt8) : Bool := decide (97 ≤ c.toNat ∧ c.toNat ≤ 122)
def nmC (c : UInt8) : Bool := letB c || (decide (48 ≤ c.toNat ∧ c.toNat ≤ 57) || decide (c.toNat = 95))
def nameB (l : List UInt8) : Bool := decide (1 ≤ l.length ∧ l.length ≤ 16) && (letB (l.getD 0 0) && l.all nmC)
def inB (m : Int) (n : Int) : Bool := decide (0 ≤ n ∧ n ≤ m)
def wkB (we : List Int) : Bool := decide (we.length ≤ 6) && (we.all (inB 6) && risesB we)
def ckE (nm : List UInt8) (we ho : List Int) : Int :=
  if nameB nm = true then (if wkB we = true then (if ho.length ≤ 400 then (if ho.all (inB 73048) = true then (if risesB ho = true then 0 else 10) else 1) else 5) else 1) else 4
theorem ck_join (nm : List UInt8) (n2 : List UInt8) (wa wb ha hb : List Int) (a : ckE nm wa ha = 0) (b : ckE n2 wb hb = 0) (h7 : (normI (wa ++ wb)).length ≤ 6) (h4 : ha.length + hb.length ≤ 400) :
    ckE nm (normI (wa ++ wb)) (normI (ha ++ hb)) = 0 := by
  have parts : ∀ (n : List UInt8) (w h : List Int), ckE n w h = 0 → nameB n = true ∧ wkB w = true ∧ h.all (inB 73048) = true := by
    intro n w h e
    unfold ckE at e
    split at e
    · split at e
      · split at e
        · split at e
          · exact ⟨by assumption, by assumption, by assumption⟩
          · omega
        · omega
      · omega
    · omega
  obtain ⟨a1, a2, a3⟩ := parts _ _ _ a
  obtain ⟨b1, b2, b3⟩ := parts _ _ _ b
  have wall : ∀ w, wkB w = true → w.all (inB 6) = true := by
    intro w h; simp only [wkB, Bool.and_eq_true] at h; exact h.2.1
  have hl := norm_len (ha ++ hb)
  rw [List.length_append] at hl
  unfold ckE
  rw [if_pos a1, if_pos, if_pos (by omega), if_pos, if_pos (rises_yes _ (norm_rises _))]
  · rw [List.all_eq_true] at a3 b3 ⊢
    intro x hx
    rw [norm_mem, List.mem_append] at hx
    rcases hx with e | e
    · exact a3 x e
    · exact b3 x e
  · have c1 := wall _ a2; have c2 := wall _ b2
    simp only [wkB, Bool.and_eq_true, decide_eq_true_eq]
    refine ⟨h7, ?_, rises_yes _ (norm_rises _)⟩
    rw [List.all_eq_true] at c1 c2 ⊢
    intro x hx
    rw [norm_mem, List.mem_append] at hx
    rcases hx with e | e
    · exact c1 x e
    · exact c2 x e
end Go.Proofs.YtgljaopnehdgdaaDoor.WM
