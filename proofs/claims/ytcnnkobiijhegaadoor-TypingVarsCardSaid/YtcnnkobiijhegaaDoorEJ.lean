/-
  The iterator over all nodes of an expression: its list of nodes to come; all nodes, each once, in some order.
-/
import Derived.Test.YtcnnkobiijhegaaDoorEI
namespace Go.Proofs.YtcnnkobiijhegaaDoor
open Go Go.RowKit Go.Lib Go.Shelf WM TM EM

attribute [local go_sem] Oper.semAt_some
/-- A node, and where its operands lie. -/
abbrev Nd := Ex × Option Addr × Nat
def xv (x : Nd) : Value := .agg #[.int .i64 x.1.op, .int .i64 x.1.n, .string (str x.1.s), .slice x.2.1 x.1.args.length x.2.2]
def xcs (x : Nd) : List Value := [.int .i64 x.1.op, .int .i64 x.1.n, .string (str x.1.s), .slice x.2.1 x.1.args.length x.2.2]
def Lies (x : Nd) (w : World) : Prop := ExprsAt x.2.1 x.1.args w ∧ (x.2.1 = none → x.2.2 = 0)
theorem Lies.keep {x : Nd} {w w' : World} (h : Lies x w) (hb : Below w.heap.size w w') : Lies x w' := ⟨h.1.keep hb, h.2⟩
def xrow : List Nd → List Value
  | [] => []
  | x :: l => xcs x ++ xrow l
theorem xrow_length (l : List Nd) : (xrow l).length = l.length * 4 := by
  induction l with
  | nil => rfl
  | cons x l ih => show (xcs x ++ xrow l).length = _; rw [List.length_append, ih, List.length_cons]; show 4 + _ = _; omega
theorem xrow_app (l m : List Nd) : xrow (l ++ m) = xrow l ++ xrow m := by
  induction l with
  | nil => rfl
  | cons x l ih => show xcs x ++ xrow (l ++ m) = (xcs x ++ xrow l) ++ xrow m; rw [ih, List.append_assoc]
theorem xrow_one (l : List Nd) : ∀ u ∈ xrow l, u.oneCell' = true := by
  induction l with
  | nil => intro u hu; cases hu
  | cons x l ih =>
    intro u hu
    rcases List.mem_append.1 (show u ∈ xcs x ++ xrow l from hu) with h | h
    · simp only [xcs, List.mem_cons, List.not_mem_nil, or_false] at h
      rcases h with rfl | rfl | rfl | rfl <;> rfl
    · exact ih u h
theorem xrow_at (l : List Nd) : ∀ i (h : i < l.length) j, j < 4 → (xrow l)[i * 4 + j]? = (xcs l[i])[j]? := by
  induction l with
  | nil => intro i h; exact absurd h (Nat.not_lt_zero _)
  | cons x l ih =>
    intro i h j hj
    show (xcs x ++ xrow l)[i * 4 + j]? = _
    cases i with
    | zero => rw [List.getElem?_append_left (by show 0 * 4 + j < 4; omega)]; simp
    | succ i =>
      rw [List.getElem?_append_right (by show 4 ≤ _; omega)]
      have := ih i (Nat.lt_of_succ_lt_succ h) j hj
      rw [show (i + 1) * 4 + j - (xcs x).length = i * 4 + j by show (i + 1) * 4 + j - 4 = _; omega, this]
      simp
theorem xrow_get (l : List Nd) (j : Nat) (u : Value) (h : (xrow l)[j]? = some u) : ∃ (i : Nat) (hi : i < l.length) (k : Nat), k < 4 ∧ j = i * 4 + k ∧ (xcs l[i])[k]? = some u := by
  have hj := (List.getElem?_eq_some_iff.1 h).1
  rw [xrow_length] at hj
  refine ⟨j / 4, by omega, j % 4, by omega, by omega, ?_⟩
  rw [← xrow_at l (j / 4) (by omega) (j % 4) (by omega), show j / 4 * 4 + j % 4 = j by omega]
  exact h
/-- The operands as nodes. -/
theorem kids {w : World} {ao : Option Addr} : ∀ (l : List Ex), ExprsAt ao l w → ∃ ks : List Nd, ks.map (·.1) = l ∧ (∀ x ∈ ks, Lies x w) ∧ ∀ ad, ao = some ad → ∀ j u, (xrow ks)[j]? = some u → w.cell? (ad.add j) = some u := by
  have key : ∀ (l : List Ex) (i : Nat), InL w l ao i → ∃ ks : List Nd, ks.map (·.1) = l ∧ (∀ x ∈ ks, Lies x w) ∧ ∀ b off, ao = some ⟨b, off, none⟩ → ∀ j u, (xrow ks)[j]? = some u → w.cell? ⟨b, off + i * 4 + j, none⟩ = some u := by
    intro l
    induction l with
    | nil => intro i _; exact ⟨[], rfl, fun _ h => (by cases h), fun _ _ _ j u h => by simp [xrow] at h⟩
    | cons e l ih =>
      intro i h
      obtain ⟨⟨b, off, so, cap, h1, h2, h3, h4, h5, h6, h7, h8⟩, hl⟩ := h
      obtain ⟨ks, k1, k2, k3⟩ := ih (i + 1) hl
      refine ⟨(e, so, cap) :: ks, by simp [k1], ?_, ?_⟩
      · intro x hx
        rcases List.mem_cons.1 hx with rfl | hx
        · exact ⟨by rw [in1_eq] at h7; exact h7, h8⟩
        · exact k2 x hx
      · intro b' off' e1 j u hu
        rw [h1] at e1
        cases e1
        by_cases hj : j < 4
        · have : (xcs (e, so, cap))[j]? = some u := by
            have hu' : (xcs (e, so, cap) ++ xrow ks)[j]? = some u := hu
            rwa [List.getElem?_append_left (by show j < 4; exact hj)] at hu'
          match j, hj, this with
          | 0, _, this => simp [xcs] at this; subst this; exact h3
          | 1, _, this => simp [xcs] at this; subst this; exact h4
          | 2, _, this => simp [xcs] at this; subst this; exact h5
          | 3, _, this => simp [xcs] at this; subst this; exact h6
        · have hu' : (xcs (e, so, cap) ++ xrow ks)[j]? = some u := hu
          rw [List.getElem?_append_right (by show 4 ≤ j; omega)] at hu'
          have := k3 _ _ h1 _ _ hu'
          have e4 : (xcs (e, so, cap)).length = 4 := rfl
          rw [e4, show off + (i + 1) * 4 + (j - 4) = off + i * 4 + j by omega] at this
          exact this
  intro l h
  obtain ⟨ks, k1, k2, k3⟩ := key l 0 h
  refine ⟨ks, k1, k2, fun ad had j u hu => ?_⟩
  have hj := (List.getElem?_eq_some_iff.1 hu).1
  rw [xrow_length] at hj
  have hlen : 0 < l.length := by
    have : ks.length = l.length := by rw [← k1, List.length_map]
    omega
  obtain ⟨b, off, _, _, e1, _⟩ := h.at 0 hlen
  have had2 := had
  rw [e1] at had2
  cases had2
  have := k3 _ _ e1 _ _ hu
  rw [Addr.add_lit]
  simpa using this
theorem take_own {w : World} {base : Nat} {e : TypeId} {size g n cap k : Nat} {xs : List Value} (h : w.ownsRow base e size (.slice (some ⟨g, 0, none⟩) n cap) n xs) (hk : k ≤ n) : w.ownsRow base e size (.slice (some ⟨g, 0, none⟩) k cap) k (xs.take (k * size)) := by
  obtain ⟨h1, h2⟩ := h
  rcases h2 with ⟨h2, _⟩ | ⟨g', cap', cur, hv, hb, hg, h3, h4, h5, h6⟩
  · cases h2
  · cases hv
    have hks : k * size ≤ n * size := Nat.mul_le_mul_right _ hk
    refine ⟨by rw [List.length_take, h1]; omega, Or.inr ⟨g, cap, cur, rfl, hb, hg, by omega, h4, h5, ?_⟩⟩
    rw [← h6, List.take_take]
    congr 1
    omega
theorem own_cell {w : World} {base : Nat} {e : TypeId} {size g n cap : Nat} {xs : List Value} (h : w.ownsRow base e size (.slice (some ⟨g, 0, none⟩) n cap) n xs) (j : Nat) (u : Value) (hu : xs[j]? = some u) : w.cell? ⟨g, j, none⟩ = some u := by
  obtain ⟨h1, h2⟩ := h
  rcases h2 with ⟨h2, _⟩ | ⟨g', cap', cur, hv, hb, hg, h3, h4, h5, h6⟩
  · cases h2
  · cases hv
    have hj := (List.getElem?_eq_some_iff.1 hu).1
    rw [cell_of_row _ _ j cur _ (0, 0) hg, ← Array.getElem?_toList, ← hu, ← h6, List.getElem?_take, if_pos (by omega)]
theorem infoEx : (Tryd.prog.info? 33).map (fun i => (i.zero, i.size, i.bytes)) = some (some (.agg #[.int .i64 0, .int .i64 0, .string ⟨#[]⟩, .slice none 0 0]), 4, 56) := by kernel_rfl

set_option maxRecDepth 100000 in
theorem mall (e : Ex) (so : Option Addr) (cap : Nat) (w : World) :
    Calls Tryd.prog 27 #[.agg #[.int .i64 e.op, .int .i64 e.n, .string (str e.s), .slice so e.args.length cap]] w fun r w' =>
      r = .returned (.func (.func 36) #[] #[.pointer (some ⟨w.heap.size, 0, none⟩)]) ∧ w' = w.alloc (.cells (xcs (e, so, cap)).toArray 33) := by
  go_enter Tryd.func27, Tryd.ntmps27
  go_wp2_with fail
  go_ret
  exact ⟨rfl, rfl⟩
end Go.Proofs.YtcnnkobiijhegaaDoor
