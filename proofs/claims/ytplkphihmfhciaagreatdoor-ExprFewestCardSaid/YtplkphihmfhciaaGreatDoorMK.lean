/-
  Merged: Lists of texts: sorted, each once; equal lists. Names: a loop over all nodes that collects; sorted, each once.
-/
import Derived.Test.YtplkphihmfhciaaGreatDoorEA
import Derived.Test.YtplkphihmfhciaaGreatDoorShelf
import Derived.Lib.SlicesCompact
import Derived.Test.YtplkphihmfhciaaGreatDoorEV
import Derived.Maps.AppendAt
import Derived.Sort.OwnSorted
/- Lists of texts: sorted, each once; equal lists. -/
namespace Go.Proofs.YtplkphihmfhciaaGreatDoor
open Go Go.RowKit Go.Lib WM TM EM

abbrev Tx := List UInt8
def TxAt (ao : Option Addr) (zs : List Tx) (w : World) : Prop := ∀ i, i < zs.length → ∃ b off, ao = some ⟨b, off, none⟩ ∧ b < w.heap.size ∧ w.cell? ⟨b, off + i, none⟩ = some (.string (str (zs.getD i [])))
theorem TxAt.keep {ao : Option Addr} {zs : List Tx} {w w' : World} (h : TxAt ao zs w) (hb : Below w.heap.size w w') : TxAt ao zs w' := by
 intro i hi
 obtain ⟨b, off, e, hbw, c⟩ := h i hi
 exact ⟨b, off, e, by have := hb.size; omega, keepc hb c⟩
theorem TxAt.nil (ao : Option Addr) (w : World) : TxAt ao [] w := fun _ hi => absurd hi (Nat.not_lt_zero _)
def nmL (l : List Ex) : List Tx := (l.filter fun x => decide (x.op = 4)).map (·.s)
theorem nmL_app (l m : List Ex) : nmL (l ++ m) = nmL l ++ nmL m := by simp [nmL]
theorem nmL_len (l : List Ex) : (nmL l).length ≤ l.length := by
 unfold nmL
 rw [List.length_map]
 exact List.length_filter_le _ _
theorem nmL_perm {l m : List Ex} (h : l.Perm m) (s : Tx) : s ∈ nmL l ↔ s ∈ nmL m := by
 unfold nmL
 simp only [List.mem_map, List.mem_filter]
 exact ⟨fun ⟨x, hx, e⟩ => ⟨x, ⟨h.mem_iff.1 hx.1, hx.2⟩, e⟩, fun ⟨x, hx, e⟩ => ⟨x, ⟨h.mem_iff.2 hx.1, hx.2⟩, e⟩⟩
def NmS (e : Ex) (l : List Tx) : Prop := l.Pairwise (· < ·) ∧ ∀ s, s ∈ l ↔ s ∈ nmL (EM.pre e)
theorem asc_ext : ∀ {l m : List Tx}, l.Pairwise (· < ·) → m.Pairwise (· < ·) → (∀ s, s ∈ l ↔ s ∈ m) → l = m := by
 intro l
 induction l with
 | nil =>
  intro m _ _ h
  cases m with
  | nil => rfl
  | cons y m => exact absurd ((h y).2 (by simp)) (by simp)
 | cons x l ih =>
  intro m hl hm h
  cases m with
  | nil => exact absurd ((h x).1 (by simp)) (by simp)
  | cons y m =>
   rw [List.pairwise_cons] at hl hm
   have hxy : x = y := by
    have h1 := (h x).1 (by simp)
    have h2 := (h y).2 (by simp)
    rcases List.mem_cons.1 h1 with e | h1
    ·exact e
    ·rcases List.mem_cons.1 h2 with e | h2
     ·exact e.symm
     ·exact absurd (hl.1 y h2) (fun k => List.lt_asymm k (hm.1 x h1))
   subst hxy
   congr 1
   refine ih hl.2 hm.2 fun s => ?_
   constructor
   ·intro hs
    rcases List.mem_cons.1 ((h s).1 (by simp [hs])) with e | k
    ·subst e; exact absurd (hl.1 s hs) (List.lt_irrefl s)
    ·exact k
   ·intro hs
    rcases List.mem_cons.1 ((h s).2 (by simp [hs])) with e | k
    ·subst e; exact absurd (hm.1 s hs) (List.lt_irrefl s)
    ·exact k
theorem NmS.eq {e : Ex} {l m : List Tx} (h : NmS e l) (k : NmS e m) : l = m := asc_ext h.1 k.1 fun s => (h.2 s).trans (k.2 s).symm
theorem lt_of_ne {a b : Tx} (h : a ≤ b) (k : a ≠ b) : a < b := by
 rcases List.le_iff_lt_or_eq.1 h with h | h
 ·exact h
 ·exact absurd h k
def normT (l : List Tx) : List Tx := Lib.compact (l.mergeSort fun x y => decide (x ≤ y))
theorem sort_pwT (l : List Tx) : (l.mergeSort fun x y => decide (x ≤ y)).Pairwise (fun a b => a ≤ b) := by
 have h := List.pairwise_mergeSort (le := fun x y : Tx => decide (x ≤ y)) (fun a b c h1 h2 => by
   simp only [decide_eq_true_eq] at *
   exact List.le_trans h1 h2) (fun a b => by
   rcases List.le_total a b with h | h <;> simp [h]) l
 exact h.imp (fun h => by simpa using h)
theorem comp_pwT (d : Array Tx) (hd : d.toList.Pairwise (fun a b => a ≤ b)) (m : Nat) (hm : m ≤ d.size) :
  (Lib.compactUpTo d m).Pairwise (· < ·) ∧ (∀ x ∈ Lib.compactUpTo d m, 0 < m ∧ x ≤ d[m - 1]!) ∧ ∀ j, j < m → d[j]! ∈ Lib.compactUpTo d m := by
 induction m with
 | zero => exact ⟨List.Pairwise.nil, by intro x hx; simp [Lib.compactUpTo] at hx, by intro j hj; omega⟩
 | succ m ih =>
  obtain ⟨a, b, c⟩ := ih (by omega)
  rw [Lib.compactUpTo_succ]
  have hle : ∀ i j, i < j → j < d.size → d[i]! ≤ d[j]! := by
   intro i j hij hj
   rw [List.pairwise_iff_getElem] at hd
   have := hd i j (by simpa using (by omega : i < d.size)) (by simpa using hj) hij
   have hi : i < d.size := by omega
   simpa [getElem!_pos, hi, hj] using this
  by_cases k : Lib.keeps d m = true
  ·rw [k]
   simp only [if_true]
   refine ⟨?_, ?_, ?_⟩
   ·rw [List.pairwise_append]
    refine ⟨a, by simp, ?_⟩
    intro x hx y hy
    rw [List.mem_singleton] at hy
    subst hy
    have h1 := b x hx
    have h2 := hle (m - 1) m (by omega) (by omega)
    have h3 : d[m]! ≠ d[m - 1]! := by
     have := k
     simp only [Lib.keeps, decide_eq_true_eq] at this
     rcases this with e | e
     ·omega
     ·exact e
    exact List.lt_of_le_of_lt h1.2 (lt_of_ne h2 (fun e => h3 e.symm))
   ·intro x hx
    rw [List.mem_append, List.mem_singleton] at hx
    refine ⟨by omega, ?_⟩
    rw [Nat.add_sub_cancel]
    rcases hx with e | e
    ·have h1 := b x e
     have h2 := hle (m - 1) m (by omega) (by omega)
     exact List.le_trans h1.2 h2
    ·rw [e]; exact List.le_refl _
   ·intro j hj
    rw [List.mem_append, List.mem_singleton]
    by_cases e : j = m
    ·subst e; exact Or.inr rfl
    ·exact Or.inl (c j (by omega))
  ·have k : Lib.keeps d m = false := by simpa using k
   have hk : 0 < m ∧ d[m]! = d[m - 1]! := by
    simp only [Lib.keeps, decide_eq_false_iff_not, not_or, Classical.not_not] at k
    exact ⟨by omega, k.2⟩
   rw [k]
   simp only [Bool.false_eq_true, if_false, List.append_nil]
   refine ⟨a, ?_, ?_⟩
   ·intro x hx
    have h1 := b x hx
    refine ⟨by omega, ?_⟩
    rw [Nat.add_sub_cancel, hk.2]
    exact h1.2
   ·intro j hj
    by_cases e : j = m
    ·subst e; rw [hk.2]; exact c (j - 1) (by omega)
    ·exact c j (by omega)
theorem comp_subT (d : Array Tx) (m : Nat) (hm : m ≤ d.size) : ∀ x ∈ Lib.compactUpTo d m, x ∈ d.toList := by
 intro x hx
 simp only [Lib.compactUpTo, List.mem_map, List.mem_filter, List.mem_range] at hx
 obtain ⟨j, ⟨hj, _⟩, rfl⟩ := hx
 have : j < d.size := by omega
 simp [getElem!_pos, this]
theorem norm_pwT (l : List Tx) : (normT l).Pairwise (· < ·) := by
 have h := sort_pwT l
 exact (comp_pwT (l.mergeSort fun x y => decide (x ≤ y)).toArray (by simpa using h) _ (by simp)).1
theorem norm_memT (l : List Tx) (x : Tx) : x ∈ normT l ↔ x ∈ l := by
 have h := sort_pwT l
 have hs : x ∈ (l.mergeSort fun x y => decide (x ≤ y)) ↔ x ∈ l := (List.mergeSort_perm l _).mem_iff
 rw [← hs]
 constructor
 ·intro hx
  have := comp_subT _ _ (by simp) x hx
  simpa using this
 ·intro hx
  obtain ⟨j, hj, e⟩ := List.getElem_of_mem hx
  have := (comp_pwT (l.mergeSort fun x y => decide (x ≤ y)).toArray (by simpa using h) (l.mergeSort fun x y => decide (x ≤ y)).length (by simp)).2.2 j hj
  have e2 : (l.mergeSort fun x y => decide (x ≤ y)).toArray[j]! = x := by
   have : j < (l.mergeSort fun x y => decide (x ≤ y)).toArray.size := by simpa using hj
   rw [getElem!_pos _ j this]; simpa using e
  rw [e2] at this
  exact this
theorem norm_lenT (l : List Tx) : (normT l).length ≤ l.length := by
 have h1 : (l.mergeSort fun x y => decide (x ≤ y)).length = l.length := by simp
 unfold normT Lib.compact Lib.compactUpTo
 rw [List.length_map]
 refine Nat.le_trans (List.length_filter_le _ _) ?_
 rw [List.length_range, h1]
 exact Nat.le_refl _
theorem norm_spec {e : Ex} {xs : List Ex} (h : xs.Perm (EM.pre e)) : NmS e (normT (nmL xs)) := ⟨norm_pwT _, fun s => (norm_memT _ s).trans (nmL_perm h s)⟩

theorem take_gT (l : List Tx) (k : Nat) (h : k < l.length) : l.take (k + 1) = l.take k ++ [l.getD k []] := by
 rw [List.take_succ_eq_append_getElem h]; simp [List.getD, h]
set_option maxRecDepth 100000 in
set_option maxHeartbeats 2000000 in
theorem rsameT (ao bo : Option Addr) (xs ys : List Tx) (ca cb : Nat) (hx : xs.length ≤ 1000000) (hy : ys.length ≤ 1000000) (w : World) (h : TxAt ao xs w) (h2 : TxAt bo ys w) :
  Calls Tryz.prog 21 #[.slice ao xs.length ca, .slice bo ys.length cb] w fun e w' => e = .returned (.bool (decide (xs = ys))) ∧ Below w.heap.size w w' := by
 have HA := Lib.hid h
 have HB := Lib.hid h2
 obtain ⟨n, hn⟩ : ∃ n, xs.length = n := ⟨_, rfl⟩
 obtain ⟨m, hm⟩ : ∃ m, ys.length = m := ⟨_, rfl⟩
 have HN := Lib.hid hn
 have HM := Lib.hid hm
 rw [hn] at hx ⊢
 rw [hm] at hy ⊢
 clear h h2 hn hm
 by_cases hnm : n = m
 ·subst hnm
  go_enter Tryz.func21, Tryz.ntmps21
  go_wp2_with fail
  go_loopw [5] (fun i wr => ∃ (k z : Nat), k ≤ n ∧ i = .int .i64 k ∧ xs.take k = ys.take k ∧ wr = w.drewN z) (fun i _ => n - (RowKit.intOf i).toNat)
  case atStart => exact ⟨0, 0, by omega, rfl, rfl, rfl⟩
  case round =>
   obtain ⟨k, z, hk, rfl, hE, rfl⟩ := hrel
   have HE := Lib.hid hE
   clear hE
   by_cases hlt : k < n
   ·obtain ⟨b, off, rfl, hb, c0⟩ := HA.out k (by rw [HN.out]; exact hlt)
    obtain ⟨b2, off2, rfl, hb2, c2⟩ := HB.out k (by rw [HM.out]; exact hlt)
    have ht := take_gT xs k (by rw [HN.out]; exact hlt)
    have ht2 := take_gT ys k (by rw [HM.out]; exact hlt)
    have hne : xs.getD k [] ≠ ys.getD k [] → xs ≠ ys := fun hne e => by subst e; exact hne rfl
    obtain ⟨x, hx⟩ : ∃ x, xs.getD k [] = x := ⟨_, rfl⟩
    obtain ⟨y, hy⟩ : ∃ y, ys.getD k [] = y := ⟨_, rfl⟩
    rw [hx] at c0 ht hne
    rw [hy] at c2 ht2 hne
    have hkz : (k : Int) < (n : Int) := by omega
    by_cases hq : x = y
    ·subst hq
     have HQ : Hid (xs.take (k + 1) = ys.take (k + 1)) := Lib.hid (by rw [ht, ht2, HE.out])
     obtain ⟨X, hX⟩ : ∃ X, str x = X := ⟨_, rfl⟩
     rw [hX] at c0 c2
     clear hx hy ht ht2 hne hX
     go_wp2_with fail
     go_quiet (fail)
     go_wp2_with fail
     go_roundw
     case rel => exact ⟨k + 1, _, by omega, by go_num, HQ.out, by first | rfl | exact World.drewN_drewN _ _ _⟩
     case measure => simp [RowKit.intOf]; omega
    ·have HR : Hid (decide (xs = ys) = false) := Lib.hid (by rw [decide_eq_false_iff_not]; exact hne hq)
     have hq0 : (str x).toList ≠ (str y).toList := by
      rw [toList_data, toList_data, str_list, str_list]; exact hq
     have hqb : ((str x).toList != (str y).toList) = true := by rw [bne_iff_ne]; exact hq0
     have hqd : ((str x).toList == (str y).toList) = false := by rw [beq_eq_false_iff_ne]; exact hq0
     obtain ⟨X, hX⟩ : ∃ X, str x = X := ⟨_, rfl⟩
     obtain ⟨Y, hY⟩ : ∃ X, str y = X := ⟨_, rfl⟩
     rw [hX] at c0 hq0 hqb hqd
     rw [hY] at c2 hq0 hqb hqd
     clear hx hy ht ht2 hne hX hY
     go_wp2_with fail
     go_quiet (fail)
     go_wp2_with fail
     go_ret
     exact ⟨by rw [HR.out]; rfl, by first | exact bdn (bref _) _ | exact bdn (bdn (bref _) _) _⟩
   ·have he : k = n := by omega
    subst he
    have HR : Hid (decide (xs = ys) = true) := Lib.hid (by
     rw [decide_eq_true_eq]
     have := HE.out
     rwa [List.take_of_length_le (by rw [HN.out]; exact Nat.le_refl _), List.take_of_length_le (by rw [HM.out]; exact Nat.le_refl _)] at this)
    go_wp2_with fail
    go_ret
    exact ⟨by rw [HR.out]; rfl, bdn (bref _) _⟩
 ·have HR : Hid (decide (xs = ys) = false) := Lib.hid (by
   rw [decide_eq_false_iff_not]; intro e; exact hnm (by rw [← HN.out, ← HM.out, e]))
  have hz : ¬ (n : Int) = (m : Int) := by omega
  have hz2 : ((n : Int) != (m : Int)) = true := by rw [bne_iff_ne]; exact hz
  clear hnm
  go_enter Tryz.func21, Tryz.ntmps21
  go_wp2_with fail
  go_ret
  exact ⟨by rw [HR.out]; rfl, bref _⟩
end Go.Proofs.YtplkphihmfhciaaGreatDoor

/- Names: a loop over all nodes that collects; sorted, each once. -/
namespace Go.Proofs.YtplkphihmfhciaaGreatDoor
open Go Go.RowKit Go.Lib Go.Shelf Go.Sort WM TM EM

attribute [local go_sem] Oper.semAt_some
theorem wpListIn_append_any {F : Fence} {n : Nat} {P : Program} {w : World} {ops : Array Oper} {rest : List Oper} {o : Oper} {a : Act} {Q : Exit → Act → World → Prop}
  (hg : o.guard = none) (s x : Operand) (t : TypeId) (hop : o.op = .call { callee := .builtin .append, args := #[s, x], argTypes := #[t, t] })
  (base : Nat) (e : TypeId) (i : TypeInfo) (z : Value) (size bytes : Nat) (h1 : P.underlying t = some (.slice e)) (h2 : P.info? e = some i) (h3 : i.zero = some z) (h4 : i.size = size) (h5 : i.bytes = bytes) (h6 : z.cells.size = size) (h7 : 0 < size)
  (v : Value) (k : Nat) (xs : List Value) (hs : a.eval s = v) (hown : w.ownsRow base e size v k xs) (ad : Addr) (m c : Nat) (news : List Value) (hx : a.eval x = .slice (some ad) m c) (hn : news.length = m * size)
  (hc : ∀ j u, news[j]? = some u → w.cell? (ad.add j) = some u) (h1c : ∀ u ∈ news, u.oneCell' = true) (b1 : k + m ≤ maxLen) (b2 : (k + m) * bytes ≤ 140737488355328) (b3 : base ≤ w.heap.size)
  (hK : ∀ v' w', w'.ownsRow base e size v' (k + m) (xs ++ news) → w.grownBy w' v.ownBlock → (v'.ownBlock = v.ownBlock ∨ v'.ownBlock = some w.heap.size) → wpListIn F n P ops Q rest (a.put o.dst v') w') : wpListIn F n P ops Q (o :: rest) a w := by
 refine wpListIn_plain hg fun K hK' => ?_
 obtain ⟨v', w', hrun, r1, r2, _, r4⟩ := run_append_own_at (P := P) w base t o.type e i z size bytes h1 h2 h3 h4 h5 h6 h7 v k xs hown ad m c news hn hc h1c b1 b2 b3
 unfold Oper.wpIn
 refine ⟨by simp [Oper.about, hop, resolve, Target.leads, Sem.run_pure], ?_⟩
 rw [Oper.semAt_plain F _ _ (by rw [hop]; intro c hc'; cases hc')]
 simp [execOp, hop, resolve, invoke, builtin, hs, hx, hrun, Result.andThen]
 exact hK' _ _ (hK v' w' r1 r2 r4)
def txs (l : List Tx) : List Value := l.map fun s => .string (str s)
theorem infoStr : (Tryz.prog.info? 9).map (fun i => (i.zero, i.size, i.bytes)) = some (some (.string ⟨#[]⟩), 1, 16) := by kernel_rfl
def OwnT (b : Nat) (v : Value) (l : List Tx) (r : Nat) (W : World) : Prop := W.ownsRow b 9 1 v l.length (txs l) ∧ ∀ g, v.ownBlock = some g → g ≠ r
theorem ownT_lt {b k : Nat} {v : Value} {l : List Value} {W : World} (h : W.ownsRow b 9 1 v k l) {g : Nat} (hg : v.ownBlock = some g) : b ≤ g ∧ g < W.heap.size := by
 rcases own_lt h with ⟨h1, _⟩ | ⟨g', c, h1, h2, h3⟩
 ·rw [h1] at hg; cases hg
 ·rw [h1] at hg
  injection hg with hg
  have hg' : g' = g := hg
  subst hg'
  exact ⟨h2, h3⟩
theorem ownT_same {b k : Nat} {v : Value} {l : List Value} {W W' : World} (h : W.ownsRow b 9 1 v k l) (hs : ∀ g, v.ownBlock = some g → W'.heap[g]? = W.heap[g]?) : W'.ownsRow b 9 1 v k l := by
 rcases own_lt h with ⟨h1, h2⟩ | ⟨g, c, h1, _, _⟩
 ·exact ⟨h.1, Or.inl ⟨h1, h2⟩⟩
 ·rw [h1] at h ⊢
  exact own_same h (hs g (by rw [h1]; rfl))
theorem ownT_cells {b k g : Nat} {v : Value} {l : List Value} {W : World} (h : W.ownsRow b 9 1 v k l) (hg : v.ownBlock = some g) : ∃ o : Obj, W.heap[g]? = some o ∧ o.isCells = true := by
 rcases h.2 with ⟨h1, _⟩ | ⟨g', cap, cur, hv, _, hgc, _⟩
 ·rw [h1] at hg; cases hg
 ·rw [hv] at hg
  injection hg with hg
  have hg' : g' = g := hg
  subst hg'
  exact ⟨_, hgc, rfl⟩

theorem own_pos {b k : Nat} {e : TypeId} {size : Nat} {v : Value} {l : List Value} {W : World} (h : W.ownsRow b e size v (k + 1) l) : ∃ g c, v = .slice (some ⟨g, 0, none⟩) (k + 1) c ∧ b ≤ g ∧ g < W.heap.size := by
 rcases own_lt h with ⟨_, h2⟩ | h
 ·omega
 ·exact h
theorem grown_kept {W W2 w4 : World} {v : Value} (h2 : Below W.heap.size W W2) (hg : W2.grownBy w4 v.ownBlock) {q : Nat} (hq : q < W.heap.size) (hne : ∀ g, v.ownBlock = some g → g ≠ q) : w4.heap[q]? = W.heap[q]? :=
 (hg.block q (Nat.lt_of_lt_of_le hq h2.size) (fun e => hne q e.symm rfl)).trans (h2.block q hq)
theorem b1_of {b : Nat} {v : Value} {W W' : World} (h : B1 b v W) (hb : W'.heap[b]? = W.heap[b]?) : B1 b v W' :=
 ⟨(World.cell?_of_block (a := ⟨b, 0, none⟩) hb).trans h.1, (World.frozen?_of_block (a := ⟨b, 0, none⟩) hb).trans h.2⟩

set_option maxRecDepth 100000 in
set_option maxHeartbeats 8000000 in
theorem mnames (e : Ex) (so : Option Addr) (cap : Nat) (w : World) (hsz : siz e ≤ 100000) (hL : Lies (e, so, cap) w) :
  Calls Tryz.prog 22 #[.agg #[.int .i64 e.op, .int .i64 e.n, .string (str e.s), .slice so e.args.length cap]] w fun r w' => ∃ l ao c, r = .returned (.slice ao l.length c) ∧ NmS e l ∧ l.length ≤ siz e ∧ TxAt ao l w' ∧ Below w.heap.size w w' := by
 refine (callsIn_wide (n := 0)).1 ?_
 refine callsIn_of_wp_marks Tryz.func22 rfl trivial ?_ rfl
 simp only [Tryz.ntmps22, List.size_toArray, List.length_cons, List.length_nil, Nat.reduceAdd, Nat.reduceSub, Array.replicate_succ, Array.replicate_zero, List.push_toArray, List.append_toArray, List.nil_append, List.cons_append]
 obtain ⟨i0, hi, hz0, hz1, hz2⟩ := info_parts infoStr
 have MA := Lib.hid (fun W => mall e so cap W)
 have HL := Lib.hid hL
 have HSZ := Lib.hid hsz
 clear hL hsz
 gi_wp2
 refine ⟨trivial, rfl, (callsIn_wide.2 (MA.out _)).mono ?_⟩
 rintro r w' ⟨rfl, rfl⟩
 gi_wp2
 obtain ⟨b, hb⟩ : ∃ b, w.heap.size = b := ⟨_, rfl⟩
 obtain ⟨w1, hw1⟩ : ∃ w1, ((w.alloc (.cells #[.int .i64 e.op, .int .i64 e.n, .string (str e.s), .slice so e.args.length cap] 27)).alloc (.cells #[.slice none 0 0] 41)).alloc (.cells (xcs (e, so, cap)).toArray 27) = w1 := ⟨_, rfl⟩
 have hb1 : Below w.heap.size w w1 := by rw [← hw1]; exact bal (bal (bal (bref _) _) _) _
 have hs1 : w1.heap.size = b + 3 := by rw [← hw1, ← hb]; simp
 have q0 : B1 (b + 1) (.slice none 0 0) w1 := by rw [← hw1, ← hb]; constructor <;> simp [go_sem]
 have hx : ∀ j u, (xcs (e, so, cap))[j]? = some u → w1.cell? ⟨b + 2, j, none⟩ = some u := by
  intro j u hu
  rw [← hw1, ← hb]
  match j, hu with
  | 0, hu => simp [xcs] at hu; subst hu; simp [go_sem, xcs]
  | 1, hu => simp [xcs] at hu; subst hu; simp [go_sem, xcs]
  | 2, hu => simp [xcs] at hu; subst hu; simp [go_sem, xcs]
  | 3, hu => simp [xcs] at hu; subst hu; simp [go_sem, xcs]
 rw [hw1]
 simp only [hb, Nat.add_assoc, Nat.reduceAdd]
 have hbn : Below b w w1 := by rw [← hb]; exact hb1
 clear hw1
 refine wp_range (gf := 62) (lb := #[.pointer (some ⟨b + 2, 0, none⟩)]) rfl (enters_of Tryz.func62 (by kernel_rfl) rfl) (mall1 e so cap HSZ.out w w1 hb1 (b + 2) hx HL.out) (by omega) (fun _ => rfl)
  (fun pre r W => (∃ v, B1 (b + 1) v W ∧ OwnT (b + 3) v (nmL (pre.map (·.1))) r W) ∧ Below b w W ∧ b + 3 ≤ r ∧ b + 3 ≤ W.heap.size)
  (fun _ _ => False)
  (fun pre r x a1 W => ((∃ v, B1 (b + 1) v W ∧ OwnT (b + 3) v (nmL (pre.map (·.1))) r W) ∧ Below b w W ∧ b + 3 ≤ r ∧ b + 3 ≤ W.heap.size) ∧ pre.length < siz e ∧ ∃ nb, Bx nb x W ∧ a1 = { tmps := #[.agg #[.int .i64 e.op, .int .i64 e.n, .string (str e.s), .slice so e.args.length cap], .pointer (some ⟨b, 0, none⟩), .slice none 0 0, .pointer (some ⟨b + 1, 0, none⟩), .pointer (some ⟨nb, 0, none⟩), .agg #[.int .i64 e.op, .int .i64 e.n, .string (str e.s), .slice so e.args.length cap], .func (.func 62) #[] #[.pointer (some ⟨b + 2, 0, none⟩)], xv x, undef, undef, undef, undef, undef, undef, undef, undef, undef, undef, undef, undef], defers := [] }) ?hI ?hIb ?hIx ?hA ?h0 ?hassign ?hbody ?hdone ?hstop
 case hI =>
  rintro pre r W W' r' ⟨⟨v, h1, hO, hO2⟩, h2, h3, h4⟩ ht hr hr'
  refine ⟨⟨v, h1.turn ht (by omega), ownT_same hO (fun g hg => ht.2.2.2.2 g (ownT_lt hO hg).2 (hO2 g hg)), fun g hg => ?_⟩, ht.below h2 (by omega) (by omega), by omega, by have := ht.2.2.2.1; omega⟩
  rcases hr with rfl | hr
  ·exact hO2 g hg
  ·have := (ownT_lt hO hg).2; omega
 case hIb =>
  rintro pre r W l o o' ⟨⟨v, h1, hO, hO2⟩, h2, h3, h4⟩ hl ho hc hr
  refine ⟨⟨v, h1.put (by omega), ownT_same hO (fun g hg => World.putObj_heap_other (fun e => ?_)), hO2⟩, put_below h2 (by omega) (by omega), h3, by simpa using h4⟩
  obtain ⟨o2, k1, k2⟩ := ownT_cells hO hg
  rw [e, ho] at k1
  cases k1
  rw [hc] at k2; exact absurd k2 (by decide)
 case hIx => exact fun _ _ _ _ _ _ h => h.elim
 case hA =>
  rintro pre r x a1 W l o o' ⟨⟨⟨v, h1, hO, hO2⟩, h2, h3, h4⟩, h5, nb, hN, h6⟩ hl ho hc hr
  refine ⟨⟨⟨v, h1.put (by omega), ownT_same hO (fun g hg => World.putObj_heap_other (fun e => ?_)), hO2⟩, put_below h2 (by omega) (by omega), h3, by simpa using h4⟩, h5, nb, hN.put (hN.ne ho hc), h6⟩
  obtain ⟨o2, k1, k2⟩ := ownT_cells hO hg
  rw [e, ho] at k1
  cases k1
  rw [hc] at k2; exact absurd k2 (by decide)
 case h0 =>
  intro r W' hr hr' hbe
  exact ⟨⟨_, q0.keep hbe, World.ownsRow_nil _ _ _ _, fun g hg => by cases hg⟩, hbn.trans (hbe.mono (by omega)), by omega, by have := hbe.size; omega⟩
 case hassign =>
  rintro l r pre x W hinv hx hr hN
  have HI1 := Lib.hid hinv
  clear hinv hx
  simp only [xv]
  gi_wp2
  obtain ⟨⟨v, h1, hO, hO2⟩, h2, h3, h4⟩ := HI1.out
  have hbW : Below W.heap.size W (W.alloc (.cells #[.int .i64 x.1.op, .int .i64 x.1.n, .string (str x.1.s), .slice x.2.1 x.1.args.length x.2.2] 27)) := bal (bref _) _
  exact ⟨others_below hbW, keep_below hbW (by omega) hr, ⟨⟨v, h1.keep hbW, ownT_same hO (fun g hg => hbW.block g (ownT_lt hO hg).2), hO2⟩, h2.trans (hbW.mono (by omega)), h3, by have := hbW.size; omega⟩, hN, W.heap.size, Bx.new W x _, by simp⟩
 case hbody =>
  rintro l r pre x a1 W ⟨⟨⟨v, h1, hO, hO2⟩, h2, h3, h4⟩, h5, nb, hN, rfl⟩ hr
  have hk : (nmL (pre.map (·.1))).length ≤ 100000 := by
   have := nmL_len (pre.map (·.1))
   rw [List.length_map] at this
   have := HSZ.out
   omega
  have HI1 := Lib.hid (show (∃ v, B1 (b + 1) v W ∧ OwnT (b + 3) v (nmL (pre.map (·.1))) r W) ∧ Below b w W ∧ b + 3 ≤ r ∧ b + 3 ≤ W.heap.size from ⟨⟨v, h1, hO, hO2⟩, h2, h3, h4⟩)
  obtain ⟨n1, n2, n3, n4, n5⟩ := hN
  obtain ⟨h1a, h1b⟩ := h1
  obtain ⟨o, ho⟩ : ∃ o, x.1.op = o := ⟨_, rfl⟩
  obtain ⟨X, hX⟩ : ∃ X, str x.1.s = X := ⟨_, rfl⟩
  obtain ⟨k, hkk⟩ : ∃ k, (nmL (pre.map (·.1))).length = k := ⟨_, rfl⟩
  rw [ho] at n2
  rw [hX] at n4
  rw [hkk] at hk hO
  by_cases ho4 : o = 4
  ·have hnm : nmL ((pre ++ [x]).map (·.1)) = nmL (pre.map (·.1)) ++ [x.1.s] := by
    rw [List.map_append, nmL_app]
    simp [nmL, ho, ho4]
   have HNM := Lib.hid hnm
   have HX := Lib.hid hX
   have HKK := Lib.hid hkk
   subst ho4
   have hvlt : ∀ g, v.ownBlock = some g → g < W.heap.size := fun g hg => (ownT_lt hO hg).2
   have hob : ∀ Wx : World, (∀ g, v.ownBlock = some g → Wx.heap[g]? = W.heap[g]?) → Wx.ownsRow (b + 3) 9 1 v k (txs (nmL (pre.map (·.1)))) := fun Wx hWx => ownT_same hO hWx
   have HOB := Lib.hid hob
   have HLOW : Hid (∀ g, v.ownBlock = some g → b + 3 ≤ g) := Lib.hid (fun g hg => (ownT_lt hO hg).1)
   have HCELL : Hid (∀ g, v.ownBlock = some g → ∃ o : Obj, W.heap[g]? = some o ∧ o.isCells = true) := Lib.hid (fun g hg => ownT_cells hO hg)
   have HVLT := Lib.hid hvlt
   have HO2 := Lib.hid hO2
   clear h2 h5 ho hX hnm hkk hob hvlt hO hO2 n1 n3 n5
   gi_wp2_with (gi_at_builtin; refine wpListIn_append_any rfl (.tmp 11) (.tmp 14) 41 rfl (b + 3) 9 i0 (.string ⟨#[]⟩) 1 16 Tryz.underlying41 hi hz0 hz1 hz2 rfl (by decide) v k (txs (nmL (pre.map (·.1)))) rfl (HOB.out _ (fun g hg => Below.heap_alloc _ _ _ (HVLT.out g hg))) ⟨W.heap.size, 0, none⟩ 1 1 [.string X] rfl rfl (by intro j u hj; match j, hj with | 0, hj => (simp at hj; subst hj; simp [go_sem, Addr.add])) (by intro u hu; simp at hu; subst hu; rfl) (by unfold maxLen; omega) (by omega) (by simp; omega) ?_; intro v' w4 hown4 hgrow4 hblk4; have HGW := Lib.hid hgrow4; have HOW := Lib.hid hown4; have HBL := Lib.hid hblk4; have nb1 := b1_of (show B1 (b + 1) v W from ⟨h1a, h1b⟩) (grown_kept (bal (bref W) _) hgrow4 (show b + 1 < W.heap.size by omega) (fun g hg => by have := HLOW.out g hg; omega)); obtain ⟨nb1a, nb1b⟩ := nb1; obtain ⟨g4, c4, rfl, hg4a, hg4b⟩ := own_pos hown4; clear hown4 hgrow4 hblk4)
   obtain ⟨⟨v0, g1, gO, gO2⟩, g2, g3, g4'⟩ := HI1.out
   have hW4 : ∀ q, q < W.heap.size → (∀ g, v.ownBlock = some g → g ≠ q) → w4.heap[q]? = W.heap[q]? := fun q hq hne => grown_kept (bal (bref W) _) HGW.out hq hne
   have hbW4 : Below b w w4 := (g2.trans ((bal (bref W) _).mono (by omega))).grown HGW.out (by simp; omega) (fun q hq => by have := HLOW.out q hq; omega)
   have hsW4 : W.heap.size ≤ w4.heap.size := by have := HGW.out.size; simp at this; omega
   have hgW : W.grownBy w4 v.ownBlock := { os := HGW.out.os, tape := HGW.out.tape, output := HGW.out.output, size := hsW4, block := fun q hq hne => hW4 q hq (fun g hg e => hne (by rw [hg, e])) }
   have hbK : Below b W w4 := { os := HGW.out.os, tape := HGW.out.tape, output := HGW.out.output, size := hsW4, block := fun q hq => hW4 q (by omega) (fun g hg => by have := HLOW.out g hg; omega) }
   have hrne : g4 ≠ r := by
    rcases HBL.out with h | h
    ·exact HO2.out g4 h.symm
    ·injection h with h
     have h' : g4 = (W.alloc (.cells #[.string X] 9)).heap.size := h
     simp at h'
     omega
   refine ⟨?_, ⟨?_, ?_⟩, ⟨_, ⟨World.cell?_setCell_same' _ _ _ (by rw [nb1a]; rfl), by rw [World.frozen?_setCell]; exact nb1b⟩, ?_, ?_⟩, hbW4.setCell (p := ⟨b + 1, 0, none⟩) (show b ≤ b + 1 by omega) _, h3, by simp; omega⟩
   ·refine (KeepsOthers.of_grownBy (row := v.ownBlock) hgW (fun q o hq ho => ?_)).trans (KeepsOthers.setCell _ _ _)
    obtain ⟨o2, k1, k2⟩ := HCELL.out q hq
    rw [ho] at k1; cases k1; exact k2
   ·exact hbK.setCell (p := ⟨b + 1, 0, none⟩) (show b ≤ b + 1 by omega) _
   ·exact (Below.heap_setCell w4 ⟨b + 1, 0, none⟩ _ r (show r ≠ b + 1 by omega)).trans (hW4 r hr (fun g hg => HO2.out g hg))
   ·rw [HNM.out]
    have hl1 : (nmL (pre.map (·.1)) ++ [x.1.s]).length = k + 1 := by rw [List.length_append, HKK.out]; rfl
    rw [hl1]
    have hcs : txs (nmL (pre.map (·.1)) ++ [x.1.s]) = txs (nmL (pre.map (·.1))) ++ [.string X] := by unfold txs; rw [List.map_append, ← HX.out]; rfl
    rw [hcs]
    exact ownT_same HOW.out (fun g hg => Below.heap_setCell w4 ⟨b + 1, 0, none⟩ _ g (show g ≠ b + 1 by have := (ownT_lt HOW.out hg).1; omega))
   ·intro g hg
    injection hg with hg
    have hg' : g4 = g := hg
    rw [← hg']; exact hrne
  ·have ho5 : (o == 4) = false := by rw [beq_eq_false_iff_ne]; exact ho4
   have hnm : nmL ((pre ++ [x]).map (·.1)) = nmL (pre.map (·.1)) := by
    rw [List.map_append, nmL_app]
    simp [nmL, ho, ho4]
   have HNM := Lib.hid hnm
   clear hO hO2 h2 h5 ho hX hnm hkk
   gi_wp2
   refine ⟨KeepsOthers.refl _, Keep.refl _ _ _, ?_⟩
   dsimp only
   rw [HNM.out]
   exact HI1.out
 case hdone =>
  rintro D r xs W hD hS ⟨⟨v, h1, hO, _⟩, h2, h3, h4⟩ hrD hdef
  obtain ⟨zs, hzs⟩ : ∃ zs, nmL (xs.map (·.1)) = zs := ⟨_, rfl⟩
  rw [hzs] at hO
  have HSP : Hid (NmS e (normT zs)) := Lib.hid (by rw [← hzs]; exact norm_spec hS)
  have hzl : zs.length ≤ siz e := by
   rw [← hzs]
   have := nmL_len (xs.map (·.1))
   have h9 := hS.length_eq
   unfold siz
   omega
  have HZL := Lib.hid hzl
  have hDW := (Array.getElem?_eq_some_iff.1 hdef).1
  have HDEF := Lib.hid hdef
  have hBw : Below w.heap.size w W := by rw [hb]; exact h2
  have HB := Lib.hid hBw
  obtain ⟨h1a, h1b⟩ := h1
  clear h2 hS hzs hdef hBw
  by_cases h0 : zs.length = 0
  ·have hz : zs = [] := List.eq_nil_of_length_eq_zero h0
   subst hz
   have CS := Lib.hid (fun p cap W => Tryz.slices_Sort_string_none p cap W)
   have CK := Lib.hid (fun p cap W => Tryz.slices_Compact_string_empty p cap W)
   obtain ⟨p, c, hv⟩ : ∃ p c, v = .slice p 0 c := by
    rcases own_lt hO with ⟨e1, _⟩ | ⟨g, c, e1, _⟩
    ·exact ⟨_, _, e1⟩
    ·exact ⟨_, _, e1⟩
   subst hv
   have hn : normT [] = [] := List.eq_nil_of_length_eq_zero (by have := norm_lenT []; simpa using this)
   rw [hn] at HSP
   clear hO h0 hzl hn
   gi_wp2
   refine ⟨trivial, rfl, (callsIn_wide.2 (CS.out _ _ _)).mono ?_⟩
   rintro r4 w4 ⟨rfl, rfl⟩
   gi_wp2
   refine ⟨trivial, rfl, (callsIn_wide.2 (CK.out _ _ _)).mono ?_⟩
   rintro r4 w4 ⟨rfl, rfl⟩
   gi_wp2
   refine ⟨by simp, .inl ⟨_, _, rfl, run_takeDeferred HDEF.out, ?_⟩⟩
   exact ⟨_, results_tmp rfl _ _ _, [], p, c, rfl, HSP.out, by simp, TxAt.nil _ _, put_below HB.out (Nat.le_refl _) (by omega)⟩
  ·obtain ⟨T, hT⟩ : ∃ T, zs.length = T := ⟨_, rfl⟩
   rw [hT] at h0 hO hzl
   have hT0 : 0 < T := by omega
   obtain ⟨g, c, cur, hv, hbg, hg, hnc, hm, hcs, htk⟩ : ∃ g c cur, v = .slice (some ⟨g, 0, none⟩) T c ∧ b + 3 ≤ g ∧ W.heap[g]? = some (.cells cur 9 (0, 0)) ∧ T ≤ c ∧ c ≤ maxLen ∧ cur.size = c * 1 ∧ cur.toList.take zs.length = zs.map encStr := by
    rcases hO.2 with ⟨_, e1⟩ | ⟨g, c, cur, e1, e2, e3, e4, e5, e6, e7⟩
    ·omega
    ·exact ⟨g, c, cur, e1, e2, e3, e4, e5, e6, by rw [Nat.mul_one] at e7; rw [hT]; exact e7⟩
   subst hv
   have hgl : g < W.heap.size := (Array.getElem?_eq_some_iff.1 hg).1
   have hgD : g ≠ D := by
    rintro rfl
    have := HDEF.out
    rw [hg] at this; cases this
   have hlen : (zs.mergeSort fun x y => decide (x ≤ y)).length = T := by rw [List.length_mergeSort, hT]
   have CS := Tryz.slices_Sort_string g 0 c zs W (holds_of_block hg htk) hgl (by have := HSZ.out; omega)
   rw [hT] at CS
   have CS := Lib.hid CS
   have HW2 : Hid (∀ n os, ∃ cur2, (grow (putRow encStr (Sort.ahead W n) g 0 (zs.mergeSort fun x y => decide (x ≤ y)).toArray) os).heap[g]? = some (.cells cur2 9 (0, 0)) ∧ Holds encStr (grow (putRow encStr (Sort.ahead W n) g 0 (zs.mergeSort fun x y => decide (x ≤ y)).toArray) os) g 0 (zs.mergeSort fun x y => decide (x ≤ y)).toArray ∧ W.grownBy (grow (putRow encStr (Sort.ahead W n) g 0 (zs.mergeSort fun x y => decide (x ≤ y)).toArray) os) (some g)) := Lib.hid (fun n os => by
    have a := heap_sorted (n := n) (os := os) (zs.mergeSort fun x y => decide (x ≤ y)).toArray hg
    exact ⟨_, a, holds_of_block a (take_putCells cur _ (by rw [hlen]; omega)), grownBy_sorted _⟩)
   have HLN := Lib.hid hlen
   have HN := Lib.hid hnc
   have HT := Lib.hid hT
   clear hO htk hcs hg hlen hT h0
   gi_wp2
   refine ⟨trivial, rfl, (callsIn_wide.2 CS.out).mono ?_⟩
   rintro r4 w4 ⟨rfl, n, os, hw4⟩
   obtain ⟨cur2, hg2, hH2, hG2⟩ := HW2.out n os
   rw [← hw4] at hg2 hH2 hG2
   have CK := Tryz.slices_Compact_string g 0 c (zs.mergeSort fun x y => decide (x ≤ y)) w4 hH2 (by rw [HLN.out]; have := HSZ.out; omega) (by rw [HLN.out]; exact HN.out)
   rw [HLN.out] at CK
   have nb4 := b1_of (show B1 (b + 1) _ W from ⟨h1a, h1b⟩) (hG2.block (b + 1) (by omega) (fun e => by injection e with e; omega))
   obtain ⟨nb4a, nb4b⟩ := nb4
   have CK := Lib.hid CK
   have HH2 := Lib.hid hH2
   have HG2 := Lib.hid hG2
   have HC2 := Lib.hid hg2
   clear hw4 hH2 hG2 HW2 CS hg2
   gi_wp2
   refine ⟨trivial, rfl, (callsIn_wide.2 CK.out).mono ?_⟩
   rintro r5 w5 ⟨rfl, q, hw5⟩
   have hcl : (normT zs).length ≤ T := by have := norm_lenT zs; have := HT.out; omega
   have hcm : Lib.compact (zs.mergeSort fun x y => decide (x ≤ y)) = normT zs := rfl
   rw [hcm] at hw5
   rw [hcm]
   have hH3 := holds_putRow encStr (Sort.ahead w4 q) g 0 (zs.mergeSort fun x y => decide (x ≤ y)).toArray (normT zs ++ List.replicate (T - (normT zs).length) []).toArray (holds_ahead _ _ _ _ _ _ HH2.out) (by simp only [List.size_toArray, List.length_append, List.length_replicate, HLN.out]; omega)
   have hG5 : w4.grownBy w5 (some g) := by
    have := grownBy_sorted (w := w4) (g := g) (n := q) (os := #[]) (normT zs ++ List.replicate (T - (normT zs).length) []).toArray
    rw [grow_empty] at this
    rw [hw5]; exact this
   have hB5 : Below w.heap.size w w5 := (HB.out.grown HG2.out HB.out.size (fun k e => by cases e; omega)).grown hG5 (by have := HG2.out.size; omega) (fun k e => by cases e; omega)
   have HD5 : Hid (w5.heap[D]? = some (.deferred (some []))) := Lib.hid ((hG5.block D (by have := HG2.out.size; omega) (fun e => by injection e with e; omega)).trans ((HG2.out.block D hDW (fun e => by injection e with e; omega)).trans HDEF.out))
   have HI : Hid (TxAt (some ⟨g, 0, none⟩) (normT zs) (w5.putObj D (.deferred none))) := Lib.hid (by
    intro i hi
    refine ⟨g, 0, rfl, ?_, ?_⟩
    ·have h1 := HG2.out.size
     have h2 := hG5.size
     simp; omega
    ·refine put_cell (show g ≠ D from hgD) ?_
     rw [hw5, (hH3 i (by simp; omega)).1]
     congr 1
     rw [getElem!_pos _ i (by simp; omega)]
     simp [hi, List.getD, encStr, str])
   have HB5 := Lib.hid hB5
   clear hw5 hH3 hG5 CK hB5 hcm hcl
   gi_wp2
   refine ⟨by simp, .inl ⟨_, _, rfl, run_takeDeferred HD5.out, ?_⟩⟩
   exact ⟨_, results_tmp rfl _ _ _, normT zs, _, _, rfl, HSP.out, by have := norm_lenT zs; have := HT.out; omega, HI.out, put_below HB5.out (Nat.le_refl _) (by omega)⟩
 case hstop => exact fun _ _ _ _ _ h => h.elim
end Go.Proofs.YtplkphihmfhciaaGreatDoor
