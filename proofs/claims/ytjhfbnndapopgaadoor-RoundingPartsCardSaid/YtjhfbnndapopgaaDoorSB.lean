/-
  Split and Total, whole (merged texts).
-/
import Derived.Test.YtjhfbnndapopgaaDoorRSplitW
import Derived.Test.YtjhfbnndapopgaaDoorSA
/- What Split of at most 64 weights answers, plain. -/
namespace Go.Proofs.YtjhfbnndapopgaaDoor
open Go Go.RowKit Go.Sort WM

/-- The places, the greatest number first. -/
def plF (m : Nat) (zs : List Int) : Nat → Nat := fOf (sortF m zs (idF m))
theorem plF_sd (m : Nat) (zs : List Int) : Sd (fun p => zs.getD p 0) (plF m zs) 0 (m + 1) := by
  obtain ⟨q1, q2⟩ := insertion_sort (v := fun p => zs.getD p 0) (cf := cfF m zs) (cf_lt m zs) (idF m) 0 (idF m).size (Nat.zero_le _) (Nat.le_refl _) (idF_idn m).asc
  have S : Sd (fun p => zs.getD p 0) (fOf (sortF m zs (idF m))) 0 (idF m).size := (idF_idn m).sd q2
  rw [idF_size] at S
  exact S
theorem psF_len (m : Nat) (zs : List Int) : (psF m zs).length = m + 1 := by
  unfold psF
  rw [List.length_map, Array.length_toList, sortF_size, idF_size]
theorem psF_at (m : Nat) (zs : List Int) (j : Nat) (hj : j < m + 1) : (psF m zs).getD j 0 = (plF m zs j : Int) := by
  have hs : (sortF m zs (idF m)).size = m + 1 := by rw [sortF_size, idF_size]
  unfold psF plF fOf
  rw [getElem!_pos _ j (by omega)]
  simp [List.getD, hs, hj]
theorem sumI_cons (a : Int) (l : List Int) : sumI (a :: l) = a + sumI l := by
  have key : ∀ (l : List Int) (x : Int), l.foldl (· + ·) x = x + l.foldl (· + ·) 0 := by
    intro l
    induction l with
    | nil => intro x; simp
    | cons b l ih => intro x; rw [List.foldl_cons, List.foldl_cons, ih (x + b), ih (0 + b)]; omega
  unfold sumI
  rw [List.foldl_cons, key]; omega
theorem sumI_set (l : List Int) : ∀ (k : Nat) (x : Int), k < l.length → sumI (l.set k x) = sumI l - l.getD k 0 + x := by
  induction l with
  | nil => intro k x h; simp at h
  | cons a l ih =>
    intro k x h
    cases k with
    | zero => rw [List.set_cons_zero, sumI_cons, sumI_cons, List.getD_cons_zero]; omega
    | succ k =>
      rw [List.set_cons_succ, sumI_cons, sumI_cons, ih k x (by simpa using h), List.getD_cons_succ]; omega
theorem getD_set (l : List Int) (k i : Nat) (x : Int) (hk : k < l.length) : (l.set k x).getD i 0 = if i = k then x else l.getD i 0 := by
  simp only [List.getD, List.getElem?_set]
  by_cases c : i = k
  · subst c; simp [hk]
  · rw [if_neg (fun e => c e.symm), if_neg c]
theorem bumps_facts {P ps : List Int} {f : Nat → Nat} {n : Nat} (hP : P.length = n) (hps : ps.length = n) (hf : ∀ j, j < n → ps.getD j 0 = (f j : Int)) (own : ∀ j, j < n → f j < n) (inj : ∀ x y, x < n → y < n → f x = f y → x = y) :
    ∀ L, L ≤ n → (∀ i, (∀ j, j < L → f j ≠ i) → (bumps P (ps.take L)).getD i 0 = P.getD i 0) ∧ (∀ j, j < L → (bumps P (ps.take L)).getD (f j) 0 = P.getD (f j) 0 + 1) ∧ sumI (bumps P (ps.take L)) = sumI P + L := by
  intro L
  induction L with
  | zero => intro _; exact ⟨fun i _ => rfl, fun j hj => by omega, by simp [bumps]⟩
  | succ L ih =>
    intro hL
    obtain ⟨a1, a2, a3⟩ := ih (by omega)
    have hl : f L < (bumps P (ps.take L)).length := by rw [bumps_length, hP]; exact own L (by omega)
    have e : bumps P (ps.take (L + 1)) = (bumps P (ps.take L)).set (f L) ((bumps P (ps.take L)).getD (f L) 0 + 1) := by
      rw [take_snoc_i ps L (by omega), bumps_snoc, hf L (by omega)]
      unfold bumpL
      rw [Int.toNat_natCast]
    have fresh : (bumps P (ps.take L)).getD (f L) 0 = P.getD (f L) 0 := a1 (f L) (fun j hj c => by have := inj j L (by omega) (by omega) c; omega)
    refine ⟨fun i hi => ?_, fun j hj => ?_, ?_⟩
    · rw [e, getD_set _ _ _ _ hl, if_neg (fun c => hi L (by omega) c.symm)]
      exact a1 i (fun j hj => hi j (by omega))
    · rw [e, getD_set _ _ _ _ hl]
      by_cases c : j = L
      · subst c; rw [if_pos rfl, fresh]
      · rw [if_neg (fun q => c (inj j L (by omega) (by omega) q))]
        exact a2 j (by omega)
    · rw [e, sumI_set _ _ _ hl, a3]; omega
/-- A list's sum is its numbers'. -/
theorem sumI_sumN (l : List Int) : sumN l.length (fun p => l.getD p 0) = sumI l := by
  have key : ∀ k, k ≤ l.length → sumN k (fun p => l.getD p 0) = sumI (l.take k) := by
    intro k
    induction k with
    | zero => intro _; simp [sumN, sumI]
    | succ k ih => intro h; rw [sumN, ih (by omega), take_snoc_i l k (by omega), sumI_snoc]
  rw [key l.length (Nat.le_refl _), List.take_length]
theorem parts_sum (A t : Int) : ∀ zs : List Int, A * sumI zs = t * sumI (partL A t zs) + sumI (remL A t zs) := by
  intro zs
  induction zs with
  | nil => simp [sumI, partL, remL]
  | cons a l ih =>
    have e1 : partL A t (a :: l) = (A * a / t) :: partL A t l := rfl
    have e2 : remL A t (a :: l) = (A * a % t) :: remL A t l := rfl
    rw [e1, e2, sumI_cons, sumI_cons, sumI_cons, Int.mul_add, Int.mul_add, ih]
    have := Int.mul_ediv_add_emod (A * a) t
    omega

/-- The whole: for each place its share, rounded down, or one more where something was left over; the shares add up. -/
theorem split_plain (A t : Int) (m : Nat) (zs : List Int) (hl : zs.length = m + 1) (ht : sumI zs = t) (ht1 : 1 ≤ t) :
    ∃ L : Nat, A - sumI (partL A t zs) = L ∧ L ≤ m + 1 ∧ sumI (bumps (partL A t zs) ((psF m (remL A t zs)).take L)) = A ∧
      ∀ i, i < m + 1 → (bumps (partL A t zs) ((psF m (remL A t zs)).take L)).getD i 0 = A * zs.getD i 0 / t ∨
        ((bumps (partL A t zs) ((psF m (remL A t zs)).take L)).getD i 0 = A * zs.getD i 0 / t + 1 ∧ 0 < A * zs.getD i 0 % t) := by
  have hR : (remL A t zs).length = m + 1 := by rw [remL_length, hl]
  have hP : (partL A t zs).length = m + 1 := by rw [partL_length, hl]
  have rAt : ∀ i, i < m + 1 → (remL A t zs).getD i 0 = A * zs.getD i 0 % t := fun i hi => by simp [remL, List.getD, hl, hi]
  have pAt : ∀ i, i < m + 1 → (partL A t zs).getD i 0 = A * zs.getD i 0 / t := fun i hi => by simp [partL, List.getD, hl, hi]
  have hv : ∀ i, i < m + 1 → 0 ≤ (remL A t zs).getD i 0 ∧ (remL A t zs).getD i 0 < t := fun i hi => by
    rw [rAt i hi]; exact ⟨Int.emod_nonneg _ (by omega), Int.emod_lt_of_pos _ (by omega)⟩
  have hs := parts_sum A t zs
  rw [ht] at hs
  have hsN := sumI_sumN (remL A t zs)
  rw [hR] at hsN
  have hLt : (A - sumI (partL A t zs)) * t = sumI (remL A t zs) := by
    rw [Int.sub_mul, hs, Int.mul_comm t]; omega
  have hpos : 0 ≤ sumI (remL A t zs) := by
    have key : ∀ k, k ≤ m + 1 → 0 ≤ sumN k (fun p => (remL A t zs).getD p 0) := by
      intro k
      induction k with
      | zero => intro _; simp [sumN]
      | succ k ih => intro h; rw [sumN]; have := ih (by omega); have := (hv k (by omega)).1; omega
    rw [← hsN]; exact key _ (Nat.le_refl _)
  have hL0 : 0 ≤ A - sumI (partL A t zs) := by
    by_cases c : 0 ≤ A - sumI (partL A t zs)
    · exact c
    · exfalso
      have : (A - sumI (partL A t zs)) * t < 0 := Int.mul_neg_of_neg_of_pos (by omega) (by omega)
      omega
  obtain ⟨L, hL⟩ : ∃ L : Nat, A - sumI (partL A t zs) = L := ⟨(A - sumI (partL A t zs)).toNat, by omega⟩
  rw [hL, ← hsN] at hLt
  have few := front_few (v := fun p => (remL A t zs).getD p 0) (n := m + 1) (L := L) (t := t) (by omega) hv hLt.symm ht1
  have S := plF_sd m (remL A t zs)
  have front := front_pos S hv hLt.symm ht1
  obtain ⟨b1, b2, b3⟩ := bumps_facts hP (psF_len m (remL A t zs)) (psF_at m (remL A t zs)) (fun j hj => (S.own j (by omega) hj).2) S.inj L (by omega)
  refine ⟨L, hL, by omega, by rw [b3]; omega, fun i hi => ?_⟩
  by_cases c : ∃ j, j < L ∧ plF m (remL A t zs) j = i
  · obtain ⟨j, hj, rfl⟩ := c
    right
    rw [b2 j hj, pAt _ hi]
    refine ⟨rfl, ?_⟩
    have := front j hj (by omega)
    rw [← rAt _ hi]
    exact this
  · left
    rw [b1 i (fun j hj e => c ⟨j, hj, e⟩), pAt i hi]
end Go.Proofs.YtjhfbnndapopgaaDoor

/- The contract of package rounding's Split, over a slice that is there. -/
namespace Go.Proofs.YtjhfbnndapopgaaDoor
open Go Go.RowKit Go.Sort WM

/-- What Split answers for weights that are accepted. -/
def spQ (a : Int) (zs : List Int) : List Int :=
  bumps (partL (max a (-a)) (sumI zs) zs) ((psF (zs.length - 1) (remL (max a (-a)) (sumI zs) zs)).take (max a (-a) - sumI (partL (max a (-a)) (sumI zs) zs)).toNat)
def spL (a : Int) (zs : List Int) : List Int := finL a (spQ a zs)

theorem accepted {zs : List Int} (h : ¬ sumW zs = 0) : zs.length ≤ 64 ∧ zs.all weightB = true ∧ sumW zs = sumI zs ∧ 1 ≤ sumI zs ∧ 0 < zs.length := by
  unfold sumW at *
  by_cases c1 : 64 < zs.length
  · rw [if_pos c1] at h; exact absurd rfl h
  · rw [if_neg c1] at h ⊢
    by_cases c2 : zs.all weightB = true
    · rw [if_pos c2] at h ⊢
      have b := (sumI_bd zs c2).1
      refine ⟨by omega, c2, rfl, by omega, ?_⟩
      rcases zs with _ | ⟨x, l⟩
      · exact absurd rfl h
      · simp
    · rw [if_neg c2] at h; exact absurd rfl h
theorem weight_le {zs : List Int} (h : zs.all weightB = true) : ∀ i, i < zs.length → 0 ≤ zs.getD i 0 ∧ zs.getD i 0 ≤ 1000000000000 ∧ zs.getD i 0 ≤ sumI zs := by
  have w : ∀ i, i < zs.length → 0 ≤ zs.getD i 0 ∧ zs.getD i 0 ≤ 1000000000000 := by
    intro i hi
    rw [List.all_eq_true] at h
    have := h (zs.getD i 0) (by simp [List.getD, hi])
    simpa [weightB] using this
  intro i hi
  refine ⟨(w i hi).1, (w i hi).2, ?_⟩
  have key : ∀ k, k ≤ zs.length → 0 ≤ sumN k (fun p => zs.getD p 0) ∧ (i < k → zs.getD i 0 ≤ sumN k (fun p => zs.getD p 0)) := by
    intro k
    induction k with
    | zero => intro _; exact ⟨by simp [sumN], fun h => by omega⟩
    | succ k ih =>
      intro hk
      obtain ⟨i1, i2⟩ := ih (by omega)
      have := (w k (by omega)).1
      rw [sumN]
      refine ⟨by omega, fun hik => ?_⟩
      by_cases c : i = k
      · subst c; omega
      · have := i2 (by omega); omega
  have := (key zs.length (Nat.le_refl _)).2 hi
  rw [sumI_sumN] at this
  exact this

theorem split_ok (a : Int) (b off cap : Nat) (zs : List Int) (w : World) (ha : goodB a = true) (hs : ¬ sumW zs = 0) (hb : b < w.heap.size) (hc : ∀ i, i < zs.length → w.cell? ⟨b, off + i, none⟩ = some (.int .i64 (zs.getD i 0))) :
    Calls Tryd.prog 31 #[.int .i64 a, .slice (some ⟨b, off, none⟩) zs.length cap] w fun e w' =>
      ∃ g c, e = .returned (.tuple #[.slice (some ⟨g, 0, none⟩) zs.length c, .int .i64 0]) ∧ XRow w' g zs.length (spL a zs) ∧ Below w.heap.size w w' := by
  obtain ⟨h64, hall, _, h1, h0⟩ := accepted hs
  obtain ⟨m, hm⟩ : ∃ m, zs.length = m + 1 := ⟨zs.length - 1, by omega⟩
  obtain ⟨L, hL, hLm, _, _⟩ := split_plain (max a (-a)) (sumI zs) m zs hm rfl h1
  have S := split_small a (max a (-a)) (sumI zs) b off cap m L zs _ w ha rfl hm (by omega) hall rfl h1 (weight_le hall) rfl hL hLm (psF_len m _) (fun j hj => ⟨plF m _ j, ((plF_sd m _).own j (by omega) hj).2, psF_at m _ j hj⟩) hb hc
  have e : spL a zs = finL a (bumps (partL (max a (-a)) (sumI zs) zs) ((psF m (remL (max a (-a)) (sumI zs) zs)).take L)) := by
    unfold spL spQ
    rw [hL, hm, Nat.add_sub_cancel, Int.toNat_natCast]
  rw [e]
  rw [show m + 1 = zs.length from hm.symm] at S
  exact S

set_option maxRecDepth 100000 in
set_option maxHeartbeats 2000000 in
theorem split_err (a : Int) (b off cap : Nat) (zs : List Int) (w : World) (hlen : zs.length ≤ 1000000) (h : goodB a = false ∨ sumW zs = 0) (hc : ∀ i, i < zs.length → w.cell? ⟨b, off + i, none⟩ = some (.int .i64 (zs.getD i 0))) :
    Calls Tryd.prog 31 #[.int .i64 a, .slice (some ⟨b, off, none⟩) zs.length cap] w fun e w' =>
      e = .returned (.tuple #[.slice none 0 0, .int .i64 1]) ∧ Below w.heap.size w w' := by
  have SM := fun W hcc => sum_any b off cap zs W hlen hcc
  have GA := fun W => good_any a W
  obtain ⟨t, ht⟩ : ∃ t, sumW zs = t := ⟨_, rfl⟩
  rw [ht] at h
  simp only [ht] at SM
  have SM := Lib.hid SM
  have HC := Lib.hid hc
  clear hc ht
  by_cases hg : goodB a = true
  · have h0 : t = 0 := by
      rcases h with h | h
      · rw [hg] at h; cases h
      · exact h
    subst h0
    simp only [hg] at GA
    have GA := Lib.hid GA
    clear h
    go_enter Tryd.func31, Tryd.ntmps31
    go_wp2_with fail
    refine (SM.out _ HC.out).mono ?_
    rintro e w1 ⟨rfl, rfl⟩
    go_wp2_with fail
    refine (GA.out _).mono ?_
    rintro e w1 ⟨rfl, rfl⟩
    go_wp2_with fail
    go_ret2
    exact ⟨rfl, bref _⟩
  · have hg : goodB a = false := by simpa using hg
    simp only [hg] at GA
    have GA := Lib.hid GA
    clear h
    go_enter Tryd.func31, Tryd.ntmps31
    go_wp2_with fail
    refine (SM.out _ HC.out).mono ?_
    rintro e w1 ⟨rfl, rfl⟩
    go_wp2_with fail
    refine (GA.out _).mono ?_
    rintro e w1 ⟨rfl, rfl⟩
    go_wp2_with fail
    go_ret2
    exact ⟨rfl, bref _⟩
end Go.Proofs.YtjhfbnndapopgaaDoor

/- The document's own sum of weights. -/
namespace Go.Proofs.YtjhfbnndapopgaaDoor
open Go Go.RowKit Go.Sort WM

set_option maxRecDepth 100000 in
set_option maxHeartbeats 4000000 in
theorem total_any (b off cap : Nat) (zs : List Int) (w : World) (hlen : zs.length ≤ 1000000) (hc : ∀ i, i < zs.length → w.cell? ⟨b, off + i, none⟩ = some (.int .i64 (zs.getD i 0))) :
    Calls Tryd.prog 33 #[.slice (some ⟨b, off, none⟩) zs.length cap] w fun e w' => (∃ t, e = .returned (.tuple #[.int .i64 t, .bool (decide (0 < sumW zs))]) ∧ (0 < sumW zs → t = sumW zs)) ∧ ∃ q, w' = w.drewN q := by
  have mixed : Tryd.prog.follows Departure.mixedOrders = true := by kernel_rfl
  by_cases hbig : 64 < zs.length
  · have hb' : (64 : Int) < (zs.length : Int) := by omega
    have H : Hid (sumW zs = 0) := Lib.hid (by unfold sumW; rw [if_pos hbig])
    have hb1 : ¬ (zs.length : Int) < 1 := by omega
    clear hbig
    go_enter Tryd.func33, Tryd.ntmps33
    go_wp2
    go_ret2
    exact ⟨⟨0, by rw [H.out]; rfl, by rw [H.out]; omega⟩, 0, rfl⟩
  · by_cases hz : zs.length < 1
    · have hb' : (zs.length : Int) < 1 := by omega
      have H : Hid (sumW zs = 0) := Lib.hid (by rcases zs with _ | ⟨x, l⟩; · rfl
                                                · simp at hz)
      clear hbig hz
      go_enter Tryd.func33, Tryd.ntmps33
      go_wp2
      go_ret2
      exact ⟨⟨0, by rw [H.out]; rfl, by rw [H.out]; omega⟩, 0, rfl⟩
    · have hb' : (zs.length : Int) ≤ 64 := by omega
      have hb1 : ¬ (zs.length : Int) < 1 := by omega
      have HB := Lib.hid hbig
      have HC := Lib.hid hc
      clear hbig hc hz
      go_enter Tryd.func33, Tryd.ntmps33
      go_wp2_with fail
      go_loop [4, 5] (fun t i => ∃ k : Nat, k ≤ zs.length ∧ i = .int .i64 k ∧ (zs.take k).all weightB = true ∧ t = .int .i64 (sumI (zs.take k))) (fun _ i => zs.length - (RowKit.intOf i).toNat)
      case atStart => exact ⟨0, by omega, rfl, rfl, rfl⟩
      case round =>
        obtain ⟨k, hk, rfl, hall, rfl⟩ := hrel
        obtain ⟨s0, s1⟩ := sumI_bd _ hall
        have hl : (zs.take k).length ≤ 64 := by rw [List.length_take]; omega
        obtain ⟨S, hS⟩ : ∃ S, sumI (zs.take k) = S := ⟨_, rfl⟩
        rw [hS] at s0 s1
        have s2 : S ≤ 64000000000000 := by omega
        simp only [hS]
        have HS := Lib.hid hS; have HA := Lib.hid hall
        clear hS hall s1 hl
        by_cases hlt : k < zs.length
        · have hkz : (k : Int) < (zs.length : Int) := by omega
          have hcell := HC.out k hlt
          have hts := take_snoc_i zs k hlt
          obtain ⟨z, hz⟩ : ∃ z, zs.getD k 0 = z := ⟨_, rfl⟩
          have hstop := all_stop zs k hlt
          rw [hz] at hcell hts hstop
          have HT := Lib.hid hts; have HST := Lib.hid hstop
          clear hz hts hstop
          by_cases c1 : z < 0
          · have HN : Hid (sumW zs = 0) := Lib.hid (by unfold sumW; rw [if_neg HB.out, HST.out (by simp [weightB]; omega)]; rfl)
            go_wp2
            go_ret2
            exact ⟨⟨0, by rw [HN.out]; rfl, by rw [HN.out]; omega⟩, 0, rfl⟩
          · by_cases c2 : 1000000000000 < z
            · have HN : Hid (sumW zs = 0) := Lib.hid (by unfold sumW; rw [if_neg HB.out, HST.out (by simp [weightB]; omega)]; rfl)
              go_wp2
              go_ret2
              exact ⟨⟨0, by rw [HN.out]; rfl, by rw [HN.out]; omega⟩, 0, rfl⟩
            · have HW : Hid (weightB z = true) := Lib.hid (by simp [weightB]; omega)
              go_wp2
              go_round
              case rel => exact ⟨k + 1, by omega, by go_num, by rw [HT.out, List.all_append, HA.out]; simp [HW.out], by rw [HT.out, sumI_snoc, HS.out]⟩
              case measure => simp [RowKit.intOf]; omega
        · have he : k = zs.length := by omega
          subst he
          have H : Hid (sumW zs = S) := Lib.hid (by
            have h1 := HA.out; have h2 := HS.out
            rw [List.take_length] at h1 h2
            unfold sumW; rw [if_neg HB.out, h1, if_pos rfl, h2])
          go_wp2
          go_ret2
          exact ⟨⟨S, by rw [H.out]; rfl, fun _ => H.out.symm⟩, 0, rfl⟩
end Go.Proofs.YtjhfbnndapopgaaDoor

/- What RoundingSplits asks of the parts, plain. -/
namespace Go.Proofs.YtjhfbnndapopgaaDoor
open Go Go.RowKit Go.Sort WM

theorem sumI_neg (l : List Int) : sumI (l.map (fun x => -x)) = -sumI l := by
  induction l with
  | nil => rfl
  | cons a l ih => rw [List.map_cons, sumI_cons, sumI_cons, ih]; omega
theorem share_bd {A z t Q : Int} (hA : 0 ≤ A) (hz : 0 ≤ z ∧ z ≤ t) (ht : 1 ≤ t) (h : Q = A * z / t ∨ (Q = A * z / t + 1 ∧ 0 < A * z % t)) : 0 ≤ Q ∧ Q ≤ A ∧ -t < Q * t - A * z ∧ Q * t - A * z < t := by
  have e := Int.mul_ediv_add_emod (A * z) t
  have r0 := Int.emod_nonneg (A * z) (show t ≠ 0 by omega)
  have r1 := Int.emod_lt_of_pos (A * z) (show 0 < t by omega)
  have p0 : 0 ≤ A * z := Int.mul_nonneg hA hz.1
  have p1 : A * z ≤ A * t := Int.mul_le_mul_of_nonneg_left hz.2 hA
  have q0 : 0 ≤ A * z / t := Int.ediv_nonneg p0 (by omega)
  obtain ⟨q, hq⟩ : ∃ q, A * z / t = q := ⟨_, rfl⟩
  obtain ⟨r, hr⟩ : ∃ r, A * z % t = r := ⟨_, rfl⟩
  rw [hq] at e q0 h
  rw [hr] at e r0 r1 h
  have c : t * q = q * t := Int.mul_comm _ _
  have c1 : (q + 1) * t = q * t + t := by rw [Int.add_mul, Int.one_mul]
  have qA : q ≤ A := by
    by_cases k : q ≤ A
    · exact k
    · have : (A + 1) * t ≤ q * t := Int.mul_le_mul_of_nonneg_right (by omega) (by omega)
      rw [Int.add_mul, Int.one_mul] at this
      omega
  rcases h with h | ⟨h, hr⟩
  · subst h; omega
  · subst h
    rw [c1]
    have : q < A := by
      by_cases k : q < A
      · exact k
      · have : A * t ≤ q * t := Int.mul_le_mul_of_nonneg_right (by omega) (by omega)
        omega
    omega
theorem spL_facts (a : Int) (zs : List Int) (ha : goodB a = true) (hs : ¬ sumW zs = 0) : (spL a zs).length = zs.length ∧ sumI (spL a zs) = a ∧
    ∀ i, i < zs.length → goodB ((spL a zs).getD i 0) = true ∧ ¬ (0 < (spL a zs).getD i 0 ∧ a < 0) ∧ ¬ ((spL a zs).getD i 0 < 0 ∧ 0 < a) ∧
      -sumW zs < (spL a zs).getD i 0 * sumW zs - a * zs.getD i 0 ∧ (spL a zs).getD i 0 * sumW zs - a * zs.getD i 0 < sumW zs := by
  obtain ⟨h64, hall, hw, h1, h0⟩ := accepted hs
  rw [hw]
  obtain ⟨m, hm⟩ : ∃ m, zs.length = m + 1 := ⟨zs.length - 1, by omega⟩
  obtain ⟨L, hL, hLm, hsum, hat⟩ := split_plain (max a (-a)) (sumI zs) m zs hm rfl h1
  have eQ : spQ a zs = bumps (partL (max a (-a)) (sumI zs) zs) ((psF m (remL (max a (-a)) (sumI zs) zs)).take L) := by
    unfold spQ
    rw [hL, hm, Nat.add_sub_cancel, Int.toNat_natCast]
  rw [← eQ] at hsum hat
  have hlen : (spQ a zs).length = zs.length := by rw [eQ, bumps_length, partL_length]
  have hga : -1000000000000 ≤ a ∧ a ≤ 1000000000000 := by simpa [goodB] using ha
  have bd := fun i (hi : i < zs.length) => share_bd (A := max a (-a)) (z := zs.getD i 0) (t := sumI zs) (by omega) ⟨(weight_le hall i hi).1, (weight_le hall i hi).2.2⟩ h1 (hat i (by omega))
  unfold spL finL
  by_cases hn : a < 0
  · rw [if_pos hn]
    have em : max a (-a) = -a := by omega
    rw [em] at hsum bd
    have nat : ∀ i, i < zs.length → ((spQ a zs).map (fun x => -x)).getD i 0 = -((spQ a zs).getD i 0) := fun i hi => by simp [List.getD, hlen, hi]
    refine ⟨by rw [List.length_map, hlen], by rw [sumI_neg, hsum]; omega, fun i hi => ?_⟩
    rw [nat i hi]
    obtain ⟨b1, b2, b3, b4⟩ := bd i hi
    rw [Int.neg_mul]
    rw [Int.neg_mul] at b3 b4
    exact ⟨by unfold goodB; exact decide_eq_true (by omega), by omega, by omega, by omega, by omega⟩
  · rw [if_neg hn]
    have em : max a (-a) = a := by omega
    rw [em] at hsum bd
    refine ⟨hlen, hsum, fun i hi => ?_⟩
    obtain ⟨b1, b2, b3, b4⟩ := bd i hi
    exact ⟨by unfold goodB; exact decide_eq_true (by omega), by omega, by omega, b3, b4⟩
end Go.Proofs.YtjhfbnndapopgaaDoor

/- Split and Total of no weights. -/
namespace Go.Proofs.YtjhfbnndapopgaaDoor
open Go Go.RowKit Go.Sort WM

set_option maxRecDepth 100000 in
set_option maxHeartbeats 2000000 in
theorem sum_empty (ao : Option Addr) (cap : Nat) (w : World) : Calls Tryd.prog 58 #[.slice ao (0 : Nat) cap] w fun e w' => e = .returned (.int .i64 0) ∧ w = w' := by
  go_enter Tryd.func58, Tryd.ntmps58
  go_wp2
  go_loop [3, 11] (fun t i => i = .int .i64 0 ∧ t = .int .i64 0) (fun _ _ => 0)
  case atStart => exact ⟨rfl, rfl⟩
  case round =>
    obtain ⟨rfl, rfl⟩ := hrel
    go_wp2
    go_ret
    exact ⟨rfl, rfl⟩
set_option maxRecDepth 100000 in
set_option maxHeartbeats 2000000 in
theorem total_empty (ao : Option Addr) (cap : Nat) (w : World) : Calls Tryd.prog 33 #[.slice ao (0 : Nat) cap] w fun e w' => e = .returned (.tuple #[.int .i64 0, .bool false]) ∧ ∃ q, w' = w.drewN q := by
  go_enter Tryd.func33, Tryd.ntmps33
  go_wp2
  go_ret2
  exact ⟨rfl, 0, rfl⟩
set_option maxRecDepth 100000 in
set_option maxHeartbeats 2000000 in
theorem split_empty (a : Int) (ao : Option Addr) (cap : Nat) (w : World) : Calls Tryd.prog 31 #[.int .i64 a, .slice ao (0 : Nat) cap] w fun e w' => e = .returned (.tuple #[.slice none 0 0, .int .i64 1]) ∧ Below w.heap.size w w' := by
  have SM := Lib.hid (fun W => sum_empty ao cap W)
  have GA := fun W => good_any a W
  obtain ⟨g, hg⟩ : ∃ g, goodB a = g := ⟨_, rfl⟩
  simp only [hg] at GA
  have GA := Lib.hid GA
  clear hg
  cases g
  all_goals
    go_enter Tryd.func31, Tryd.ntmps31
    go_wp2_with fail
    refine (SM.out _).mono ?_
    rintro e w1 ⟨rfl, rfl⟩
    go_wp2_with fail
    refine (GA.out _).mono ?_
    rintro e w1 ⟨rfl, rfl⟩
    go_wp2_with fail
    go_ret2
    exact ⟨rfl, bref _⟩
end Go.Proofs.YtjhfbnndapopgaaDoor
