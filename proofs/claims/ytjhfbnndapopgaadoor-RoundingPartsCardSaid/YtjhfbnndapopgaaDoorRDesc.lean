/-
  The contract of package rounding's descending, for at most 64 numbers.
-/
import Derived.Test.YtjhfbnndapopgaaDoorRShares
import Derived.Test.YtjhfbnndapopgaaDoorSA
import Derived.Deep.QuietTactic
import Derived.BigQuiet
import Derived.Deep.LoopGhost
import Derived.Shelf.SlSortCmp.Insertion
namespace Go.Proofs.YtjhfbnndapopgaaDoor
open Go Go.RowKit Go.Sort WM

set_option maxHeartbeats 2000000 in
theorem closure_any (B gN oN capN : Nat) (zs : List Int) (i j : Nat) (hi : i < zs.length) (hj : j < zs.length) (_ : zs.length ≤ 64) (W : World) (hB : W.cell? ⟨B, 0, none⟩ = some (.slice (some ⟨gN, oN, none⟩) zs.length capN))
    (hc : ∀ k, k < zs.length → W.cell? ⟨gN, oN + k, none⟩ = some (.int .i64 (zs.getD k 0))) :
    Calls Tryd.prog 78 #[.int .i64 i, .int .i64 j, .pointer (some ⟨B, 0, none⟩)] W fun e w' => e = .returned (.int .i64 (cmpW (zs.getD j 0) (zs.getD i 0))) ∧ ∃ q, w' = W.drewN q := by
  have c1 := hc i hi
  have c2 := hc j hj
  obtain ⟨x, hx⟩ : ∃ x, zs.getD i 0 = x := ⟨_, rfl⟩
  obtain ⟨y, hy⟩ : ∃ y, zs.getD j 0 = y := ⟨_, rfl⟩
  rw [hx] at c1 ⊢; rw [hy] at c2 ⊢
  have C := fun W => (compare_int y x W).mono fun _ _ (h : _ ∧ _) => (⟨h.1, h.2.symm⟩ : _ ∧ _)
  obtain ⟨r, hr⟩ : ∃ r, cmpW y x = r := ⟨_, rfl⟩
  simp only [hr] at C ⊢
  have C := Lib.hid C
  have hiz : (i : Int) < (zs.length : Int) := by omega
  have hjz : (j : Int) < (zs.length : Int) := by omega
  clear hc hx hy hr hi hj
  go_enter Tryd.func78, Tryd.ntmps78
  go_wp2_with fail
  go_quiet ((go_at_call 71; with_reducible refine Calls.quiet_of_same (C.out _)))
  go_wp2_with fail
  go_ret
  exact ⟨rfl, _, rfl⟩

def cfF (m : Nat) (zs : List Int) (x y : Fin (m + 1)) : Int := cmpW (zs.getD y.val 0) (zs.getD x.val 0)
def sortF (m : Nat) (zs : List Int) (d : Array (Fin (m + 1))) : Array (Fin (m + 1)) := Sort.insertionSort (ltOf (cfF m zs)) d 0 d.size

/-- There is but one such order. -/
theorem sd_one {v : Nat → Int} {f g : Nat → Nat} {n : Nat} (h1 : Sd v f 0 n) (h2 : Sd v g 0 n) : ∀ k, k < n → f k = g k := by
  have inj : ∀ {h : Nat → Nat}, Sd v h 0 n → ∀ x y, x < n → y < n → h x = h y → x = y := by
    intro h H x y hx hy e
    by_cases c : x = y
    · exact c
    · by_cases l : x < y
      · exact absurd e (bef_ne (H.sorted x y (by omega) l hy))
      · exact absurd e.symm (bef_ne (H.sorted y x (by omega) (by omega) hx))
  have onto : ∀ {h : Nat → Nat}, Sd v h 0 n → ∀ y, y < n → ∃ x, x < n ∧ h x = y := fun H => inj_onto n _ (fun x hx => (H.own x (by omega) hx).2) (inj H)
  intro k
  induction k using Nat.strongRecOn with
  | ind k ih =>
    intro hk
    by_cases c : f k = g k
    · exact c
    · exfalso
      have key : ∀ {p q : Nat → Nat}, Sd v p 0 n → Sd v q 0 n → (∀ j, j < k → p j = q j) → bef v (p k) (q k) → False := by
        intro p q P Q e b
        obtain ⟨j, j0, j1⟩ := onto Q (p k) (P.own k (by omega) hk).2
        by_cases l : j < k
        · rw [← e j l] at j1
          exact bef_ne (P.sorted j k (by omega) l hk) j1
        · by_cases l2 : j = k
          · subst l2; exact bef_ne b j1.symm
          · have := Q.sorted k j (by omega) (by omega) j0
            rw [j1] at this
            exact bef_ne (bef_trans b this) rfl
      by_cases b : bef v (f k) (g k)
      · exact key h1 h2 (fun j hj => ih j hj (by omega)) b
      · exact key h2 h1 (fun j hj => (ih j hj (by omega)).symm) (bef_total c b)
theorem cf_lt (m : Nat) (zs : List Int) (x y : Fin (m + 1)) : cfF m zs x y < 0 ↔ zs.getD y.val 0 < zs.getD x.val 0 := by
  unfold cfF cmpW
  repeat' split
  all_goals omega

def idF (m : Nat) : Array (Fin (m + 1)) := Array.ofFn (fun i => i)
/-- The places, the greatest number first. -/
def psF (m : Nat) (zs : List Int) : List Int := (sortF m zs (idF m)).toList.map (fun i => (i.val : Int))

/-- The row of places while it is filled. -/
def PRel (w : World) (g n k : Nat) (zv : Value) (wr : World) : Prop :=
  (∀ j, j < n → (∃ v, wr.cell? ⟨g, j, none⟩ = some v) ∧ wr.frozen? ⟨g, j, none⟩ = false) ∧ (∀ j : Nat, j < k → wr.cell? ⟨g, j, none⟩ = some (.int .i64 j)) ∧ wr.cell? ⟨w.heap.size, 0, none⟩ = some zv ∧ Below w.heap.size w wr ∧ w.heap.size < g
theorem PRel.step {w wr : World} {g n k : Nat} {zv : Value} (h : PRel w g n k zv wr) (hk : k < n) : PRel w g n (k + 1) zv (wr.setCell ⟨g, k, none⟩ (.int .i64 k)) := by
  obtain ⟨h1, h2, h3, h4, h5⟩ := h
  obtain ⟨⟨v, hv⟩, _⟩ := h1 k hk
  refine ⟨fun j hj => ⟨?_, ?_⟩, fun j hj => ?_, ?_, h4.setCell (by show w.heap.size ≤ g; omega) _, h5⟩
  · by_cases e : j = k
    · subst e; exact ⟨_, World.cell?_setCell_same _ _ _ hv⟩
    · obtain ⟨u, hu⟩ := (h1 j hj).1
      exact ⟨u, by rw [World.cell?_setCell_other _ _ _ _ (by intro c; injection c with _ c _; omega)]; exact hu⟩
  · rw [World.frozen?_setCell]; exact (h1 j hj).2
  · by_cases e : j = k
    · subst e; exact World.cell?_setCell_same _ _ _ hv
    · rw [World.cell?_setCell_other _ _ _ _ (by intro c; injection c with _ c _; omega)]; exact h2 j (by omega)
  · rw [World.cell?_setCell_other _ _ _ _ (by intro c; injection c with c _ _; omega)]; exact h3
theorem idF_at (m j : Nat) (hj : j < m + 1) : encF m (idF m)[j]! = .int .i64 j := by
  unfold encF idF
  rw [getElem!_pos _ j (by simpa using hj)]
  simp
theorem PRel.holds {w wr : World} {g m : Nat} {zv : Value} (h : PRel w g (m + 1) (m + 1) zv wr) : Holds (encF m) wr g 0 (idF m) := by
  intro j hj
  have hj' : j < m + 1 := by simpa [idF] using hj
  refine ⟨?_, ?_⟩
  · rw [Nat.zero_add, idF_at m j hj']; exact h.2.1 j hj'
  · rw [Nat.zero_add]; exact (h.1 j hj').2
theorem size_inner {α : Type} [Inhabited α] (lt : α → α → Bool) (a : Nat) : ∀ (j : Nat) (d : Array α), (insInner lt a j d).size = d.size
  | 0, _ => rfl
  | j + 1, d => by
    rw [insInner]
    split
    · rw [size_inner lt a j, size_swp]
    · rfl
theorem size_outer {α : Type} [Inhabited α] (lt : α → α → Bool) (a b : Nat) : ∀ (k i : Nat) (d : Array α), b - i = k → (insOuter lt a b i d).size = d.size := by
  intro k
  induction k with
  | zero => intro i d h; rw [insOuter, if_neg (by omega)]
  | succ k ih =>
    intro i d h
    rw [insOuter]
    split
    · rw [ih (i + 1) _ (by omega), size_inner]
    · rfl
theorem sortF_size (m : Nat) (zs : List Int) (d : Array (Fin (m + 1))) : (sortF m zs d).size = d.size := by
  unfold sortF Sort.insertionSort; exact size_outer _ _ _ _ _ _ rfl

theorem idF_size (m : Nat) : (idF m).size = m + 1 := by simp [idF]
theorem idF_idn (m : Nat) : Idn (fOf (idF m)) 0 (idF m).size := by
  intro k _ hk
  rw [idF_size] at hk
  unfold fOf idF
  rw [getElem!_pos _ k (by simpa using hk)]
  simp
theorem sort_one (m : Nat) (zs : List Int) (d : Array (Fin (m + 1))) (hs : d.size = (idF m).size) (h : Sd (fun p => zs.getD p 0) (fOf d) 0 (idF m).size) : d = sortF m zs (idF m) := by
  obtain ⟨q1, q2⟩ := insertion_sort (v := fun p => zs.getD p 0) (cf := cfF m zs) (cf_lt m zs) (idF m) 0 (idF m).size (Nat.zero_le _) (Nat.le_refl _) (idF_idn m).asc
  have S : Sd (fun p => zs.getD p 0) (fOf (sortF m zs (idF m))) 0 (idF m).size := (idF_idn m).sd q2
  have e := sd_one h S
  have hz : (sortF m zs (idF m)).size = (idF m).size := q1
  apply Array.ext (by rw [hs, hz])
  intro i h1 h2
  have := e i (by omega)
  unfold fOf at this
  rw [getElem!_pos _ i h1, getElem!_pos _ i h2] at this
  exact Fin.ext this

theorem heap_cell_new (w : World) (v : Value) (t : TypeId) : (w.alloc (.cells #[v] t)).cell? ⟨w.heap.size, 0, none⟩ = some v := by
  rw [cell_of_row _ _ 0 #[v] t (0, 0) (heap_alloc_new w _)]; rfl
theorem frozen_row (w : World) (g j : Nat) (cur : Array Value) (t : TypeId) (h : w.heap[g]? = some (.cells cur t (0, 0))) : w.frozen? ⟨g, j, none⟩ = false := by
  simp [World.frozen?, h]
theorem PRel.start {w w1 : World} {o : Obj} {zv : Value} {n : Nat} {xs : List Value} (hz : (w.alloc o).cell? ⟨w.heap.size, 0, none⟩ = some zv)
    (own : w1.ownsRow w.heap.size 3 1 (.slice (some ⟨(w.alloc o).heap.size, 0, none⟩) n n) n xs) (gro : (w.alloc o).grownBy w1 none) : PRel w (w.heap.size + 1) n 0 zv w1 := by
  have hs : (w.alloc o).heap.size = w.heap.size + 1 := by simp
  rcases own.2 with ⟨h, _⟩ | ⟨g, cap, cur, h, _, hg, _, _, hcs, _⟩
  · cases h
  · injection h with h _ h2
    injection h with h
    injection h with h _ _
    subst h h2
    rw [hs] at hg
    refine ⟨fun j hj => ⟨⟨cur[j]'(by omega), ?_⟩, frozen_row _ _ _ _ _ hg⟩, fun j hj => absurd hj (Nat.not_lt_zero _), gro.cell hz (by simp), ?_, by omega⟩
    · rw [cell_of_row _ _ j cur _ (0, 0) hg, Array.getElem?_eq_getElem (by omega)]
    · exact (bal (bref w) o).grown gro (by simp) (fun k hk => by cases hk)

/-- The sort behind the filled row. -/
theorem sort_at (m gN oN capN : Nat) (zs : List Int) (hl : zs.length = m + 1) (h64 : m + 1 ≤ 64) (w : World) (hb : gN < w.heap.size)
    (hc : ∀ k, k < zs.length → w.cell? ⟨gN, oN + k, none⟩ = some (.int .i64 (zs.getD k 0)))
    (eg : ∀ args w, (callFunc 78 args).run Tryd.prog w = .ok (.enter 78 args) w) :
    ∀ (g : Nat) (wr : World), PRel w g zs.length zs.length (.slice (some ⟨gN, oN, none⟩) zs.length capN) wr →
      Calls Tryd.prog 77 #[.slice (some ⟨g, 0, none⟩) zs.length zs.length, .func (.func 78) #[] #[.pointer (some ⟨w.heap.size, 0, none⟩)]] wr fun e w' =>
        e = .returned (.tuple #[]) ∧ Below w.heap.size w w' ∧ ∀ j, j < m + 1 → w'.cell? ⟨g, j, none⟩ = some (.int .i64 ((psF m zs).getD j 0)) := by
  intro g wr hR
  have hid : (idF m).size = zs.length := by rw [hl]; simp [idF]
  have hR' : PRel w g (m + 1) (m + 1) (.slice (some ⟨gN, oN, none⟩) zs.length capN) wr := by rw [← hl]; exact hR
  have hH := hR'.holds
  have hB := hR.2.2.2.1
  have hg := hR.2.2.2.2
  have hgw : g < wr.heap.size := World.block_lt_of_cell? wr ⟨g, 0, none⟩ (hR.2.1 0 (by omega))
  have hcmp : CmpReads Tryd.prog 78 #[.pointer (some ⟨w.heap.size, 0, none⟩)] (encF m) (cfF m zs) g 0 (idF m).size wr := by
    intro k os dk _ x y
    have far : ∀ b o, b ≠ g → b < wr.heap.size → (sortWorld (encF m) wr g 0 k dk os).cell? ⟨b, o, none⟩ = wr.cell? ⟨b, o, none⟩ := by
      intro b o hbg hbw
      unfold sortWorld
      rw [cell?_grow _ _ _ (by rw [size_putRow]; exact hbw), cell?_putRow_other _ _ _ _ _ _ (Or.inl hbg)]
      rfl
    refine closure_any w.heap.size gN oN capN zs x.val y.val (by rw [hl]; exact x.isLt) (by rw [hl]; exact y.isLt) (by omega) _ ?_ ?_
    · rw [far _ _ (by omega) (by have := hB.size; omega)]; exact hR.2.2.1
    · intro j hj
      rw [far _ _ (by omega) (by have := hB.size; omega)]
      exact (hB.cell (p := ⟨gN, oN + j, none⟩) hb).trans (hc j hj)
  have S := sort_all (v := fun p => zs.getD p 0) hcmp eg (cf_lt m zs) hH (by rw [hid, hl]; omega) zs.length (idF_idn m)
  rw [hid] at S
  refine S.mono ?_
  rintro e w2 ⟨rfl, d2, s2, hs2, q, rfl⟩
  have e2 := sort_one m zs d2 hs2 (by rw [hid]; exact s2)
  subst e2
  refine ⟨rfl, ?_, ?_⟩
  · refine ⟨hB.os, hB.tape, hB.output, ?_, fun k hk => ?_⟩
    · show w.heap.size ≤ (putRow (encF m) wr g 0 (sortF m zs (idF m))).heap.size
      rw [size_putRow]; exact hB.size
    · show (putRow (encF m) wr g 0 (sortF m zs (idF m))).heap[k]? = _
      rw [← hB.block k hk]
      simp only [putRow, mapBlock, Array.getElem?_modify]
      rw [if_neg (by omega)]
  · intro j hj
    show (putRow (encF m) wr g 0 (sortF m zs (idF m))).cell? ⟨g, j, none⟩ = _
    have hsz : (sortF m zs (idF m)).size = (idF m).size := sortF_size m zs _
    have hjs : j < (sortF m zs (idF m)).size := by rw [hsz, hid]; omega
    have := cell?_putRow (encF m) wr g 0 (idF m) (sortF m zs (idF m)) hH hsz j hjs
    rw [Nat.zero_add] at this
    rw [this]
    unfold encF psF
    rw [getElem!_pos _ j hjs]
    simp [List.getD, hjs]

set_option maxRecDepth 100000 in
set_option maxHeartbeats 4000000 in
theorem desc_any (m gN oN capN : Nat) (zs : List Int) (hl : zs.length = m + 1) (h64 : m + 1 ≤ 64) (w : World) (hb : gN < w.heap.size)
    (hc : ∀ k, k < zs.length → w.cell? ⟨gN, oN + k, none⟩ = some (.int .i64 (zs.getD k 0))) :
    Calls Tryd.prog 60 #[.slice (some ⟨gN, oN, none⟩) zs.length capN] w fun e w' =>
      ∃ g, e = .returned (.slice (some ⟨g, 0, none⟩) (m + 1) (m + 1)) ∧ w.heap.size ≤ g ∧ (∀ j, j < m + 1 → w'.cell? ⟨g, j, none⟩ = some (.int .i64 ((psF m zs).getD j 0))) ∧ Below w.heap.size w w' := by
  have HC := Lib.hid hc
  have HL := Lib.hid hl
  have HZ : ∃ n, zs.length = n := ⟨_, rfl⟩
  obtain ⟨i0, hi, hz0, hz1, hz2⟩ := info_parts info3
  have eg : ∀ args w, (callFunc 78 args).run Tryd.prog w = .ok (.enter 78 args) w := enters_of Tryd.func78 (by kernel_rfl) rfl
  have hn20 : zs.length ≤ 64 := by omega
  clear hc hl
  go_enter Tryd.func60, Tryd.ntmps60
  have SS := sort_at m gN oN capN zs HL.out h64 w hb HC.out eg
  have SS := Lib.hid SS
  go_wp2_with (first | (refine wpList_make_full _ rfl (.tmp 6) (.tmp 6) 44 rfl w.heap.size 3 i0 (.int .i64 0) 1 Tryd.underlying44 hi hz0 hz1 .i64 .i64 _ _ zs.length rfl rfl rfl rfl (by rw [hz2]; omega) (by unfold maxLen; omega) (by simp) ?_; intro w1 own1 gro1))
  have hP := PRel.start (zv := .slice (some ⟨gN, oN, none⟩) zs.length capN) (heap_cell_new w _ _) own1 gro1
  clear own1 gro1
  go_loopw [10] (fun i wr => ∃ k : Nat, k ≤ zs.length ∧ i = .int .i64 k ∧ PRel w (w.heap.size + 1) zs.length k (.slice (some ⟨gN, oN, none⟩) zs.length capN) wr) (fun i _ => zs.length - (RowKit.intOf i).toNat)
  case atStart => exact ⟨0, by omega, rfl, hP⟩
  case round =>
    clear hP
    obtain ⟨k, hk, rfl, hR⟩ := hrel
    have HR := Lib.hid hR
    by_cases hlt : k < zs.length
    · obtain ⟨⟨v, hv⟩, hf⟩ := hR.1 k hlt
      have hkz : (k : Int) < (zs.length : Int) := by omega
      clear hR
      go_wp2_with fail
      go_roundw
      case rel => exact ⟨k + 1, by omega, by go_num, HR.out.step hlt⟩
      case measure => simp [RowKit.intOf]; omega
    · have he : k = zs.length := by omega
      subst he
      clear hR
      go_wp2_with fail
      refine (SS.out _ _ HR.out).mono ?_
      rintro e w2 ⟨rfl, q2, c2⟩
      go_wp2_with fail
      go_ret
      exact ⟨_, by rw [HL.out]; rfl, by omega, c2, q2⟩
end Go.Proofs.YtjhfbnndapopgaaDoor
