/-
  Tokens: lists of tokens in memory, and appending to one.
-/
import Derived.Test.YtcnnkobiijhegaaDoorTG
import Derived.OwnWalk
import Derived.LoopN
import Derived.ArgAppend
namespace Go.Proofs.YtcnnkobiijhegaaDoor
open Go Go.RowKit Go.Lib WM TM

def T0 : Tok := (0, 0, [])
/-- The list lies there: three cells an element. -/
def TokensAt (ao : Option Addr) (l : List Tok) (w : World) : Prop := ∀ i, i < l.length → ∃ b off, ao = some ⟨b, off, none⟩ ∧ b < w.heap.size ∧
  w.cell? ⟨b, off + i * 3, none⟩ = some (.int .i64 (l.getD i T0).1) ∧ w.cell? ⟨b, off + i * 3 + 1, none⟩ = some (.int .i64 (l.getD i T0).2.1) ∧ w.cell? ⟨b, off + i * 3 + 2, none⟩ = some (.string (str (l.getD i T0).2.2))
theorem TokensAt.keep {ao : Option Addr} {l : List Tok} {w w' : World} (h : TokensAt ao l w) (hb : Below w.heap.size w w') : TokensAt ao l w' := by
  intro i hi
  obtain ⟨b, off, e, hbw, c1, c2, c3⟩ := h i hi
  exact ⟨b, off, e, by have := hb.size; omega, keepc hb c1, keepc hb c2, keepc hb c3⟩
theorem TokensAt.nil (ao : Option Addr) (w : World) : TokensAt ao [] w := fun _ hi => absurd hi (Nat.not_lt_zero _)
theorem take_g {α : Type} (d : α) (l : List α) (k : Nat) (h : k < l.length) : l.take (k + 1) = l.take k ++ [l.getD k d] := by
  rw [List.take_succ_eq_append_getElem h]; simp [List.getD, h]
theorem drop_g {α : Type} (d : α) (l : List α) (k : Nat) (h : k < l.length) : l.drop k = l.getD k d :: l.drop (k + 1) := by
  rw [List.drop_eq_getElem_cons h]
  simp [List.getD, h]
theorem getD_mem' {α : Type} (d : α) (l : List α) (k : Nat) (h : k < l.length) : l.getD k d ∈ l := by
  simp [List.getD, h]
theorem take_ne {α : Type} (d : α) (l m : List α) (k : Nat) (hne : l.getD k d ≠ m.getD k d) : l ≠ m := by
  intro e; subst e; exact hne rfl

def tcells (t : Tok) : List Value := [.int .i64 t.1, .int .i64 t.2.1, .string (str t.2.2)]
def toks : List Tok → List Value
  | [] => []
  | t :: r => tcells t ++ toks r
theorem toks_length (l : List Tok) : (toks l).length = l.length * 3 := by
  induction l with
  | nil => rfl
  | cons t r ih => show (tcells t ++ toks r).length = _; rw [List.length_append, ih, List.length_cons]; show 3 + _ = _; omega
theorem toks_snoc (l : List Tok) (t : Tok) : toks (l ++ [t]) = toks l ++ tcells t := by
  induction l with
  | nil => show tcells t ++ [] = [] ++ tcells t; simp
  | cons u r ih => show tcells u ++ toks (r ++ [t]) = (tcells u ++ toks r) ++ tcells t; rw [ih, List.append_assoc]
theorem toks_at (l : List Tok) : ∀ i, i < l.length → (toks l)[i * 3]? = some (.int .i64 (l.getD i T0).1) ∧ (toks l)[i * 3 + 1]? = some (.int .i64 (l.getD i T0).2.1) ∧ (toks l)[i * 3 + 2]? = some (.string (str (l.getD i T0).2.2)) := by
  induction l with
  | nil => intro i hi; exact absurd hi (Nat.not_lt_zero _)
  | cons t r ih =>
    intro i hi
    cases i with
    | zero => exact ⟨rfl, rfl, rfl⟩
    | succ i =>
      obtain ⟨h1, h2, h3⟩ := ih i (Nat.lt_of_succ_lt_succ hi)
      have e : ∀ j, (toks (t :: r))[(i + 1) * 3 + j]? = (toks r)[i * 3 + j]? := by
        intro j
        show (tcells t ++ toks r)[(i + 1) * 3 + j]? = _
        rw [List.getElem?_append_right (by show 3 ≤ _; omega)]
        congr 1
        show (i + 1) * 3 + j - 3 = _
        omega
      exact ⟨(e 0).trans h1, (e 1).trans h2, (e 2).trans h3⟩
theorem infoTok : (Tryd.prog.info? 68).map (fun i => (i.zero, i.size, i.bytes)) = some (some (.agg #[.int .i64 0, .int .i64 0, .string ⟨#[]⟩]), 3, 32) := by kernel_rfl
theorem own_below {w w' : World} {base : Nat} {e : TypeId} {size : Nat} {v : Value} {n : Nat} {xs : List Value} (h : w.ownsRow base e size v n xs) (hb : Below w.heap.size w w') : w'.ownsRow base e size v n xs := by
  refine ⟨h.1, ?_⟩
  rcases h.2 with hn | ⟨g, cap, cur, rfl, hbg, hg, rest⟩
  · exact Or.inl hn
  · refine Or.inr ⟨g, cap, cur, rfl, hbg, ?_, rest⟩
    rw [hb.block g (Array.getElem?_eq_some_iff.1 hg).1]
    exact hg
theorem own_toks {w : World} {base n : Nat} {v : Value} {l : List Tok} (h : w.ownsRow base 68 3 v n (toks l)) :
    l.length = n ∧ ∃ ao cap, v = .slice ao n cap ∧ TokensAt ao l w := by
  obtain ⟨h0, h1⟩ := h
  have hl : l.length = n := by rw [toks_length] at h0; omega
  refine ⟨hl, ?_⟩
  rcases h1 with ⟨rfl, rfl⟩ | ⟨g, cap, cur, rfl, hb, hg, hnc, _, hcs, htake⟩
  · exact ⟨none, 0, rfl, fun i hi => absurd hi (by omega)⟩
  · refine ⟨some ⟨g, 0, none⟩, cap, rfl, fun i hi => ⟨g, 0, rfl, (Array.getElem?_eq_some_iff.1 hg).1, ?_⟩⟩
    obtain ⟨t1, t2, t3⟩ := toks_at l i hi
    have key : ∀ (j : Nat) (x : Value), (toks l)[j]? = some x → w.cell? ⟨g, 0 + j, none⟩ = some x := by
      intro j x hx
      have hj : j < (toks l).length := (List.getElem?_eq_some_iff.1 hx).1
      rw [toks_length] at hj
      rw [Nat.zero_add, cell_of_row _ _ j cur _ (0, 0) hg, ← Array.getElem?_toList, ← hx, ← htake, List.getElem?_take, if_pos (by omega)]
    exact ⟨key _ _ t1, key _ _ t2, key _ _ t3⟩
theorem news3 (w : World) (x y z : Value) (t : TypeId) : ∀ j u, ([x, y, z] : List Value)[j]? = some u → (w.alloc (.cells #[x, y, z] t)).cell? ((⟨w.heap.size, 0, none⟩ : Addr).add j) = some u := by
  intro j u hj
  match j, hj with
  | 0, hj => simp at hj; subst hj; simp [Addr.add]
  | 1, hj => simp at hj; subst hj; simp [Addr.add]
  | 2, hj => simp at hj; subst hj; simp [Addr.add]
/-- 'append' of one token, just laid, onto a list that the call owned before. -/
theorem wpList_append_tok {P : Program} {e : TypeId} {w1 w0 w : World} {ops : Array Oper} {rest : List Oper} {o : Oper} {a : Act} {Q : Exit → Act → World → Prop} (k ln : Int) (X : ByteArray) (hw : w = w0.alloc (.cells #[.int .i64 k, .int .i64 ln, .string X] e)) (h10 : Below w1.heap.size w1 w0) (hgd : o.guard = none) (s x : Operand) (t : TypeId)
    (ho : o.op = .call { callee := .builtin .append, args := #[s, x], argTypes := #[t, t] })
    (base : Nat) (i : TypeInfo) (d : Value) (bytes : Nat) (ht : P.underlying t = some (.slice e)) (hi : P.info? e = some i) (hz : i.zero = some d)
    (hsize : i.size = 3) (hby : i.bytes = bytes) (hzs : d.cells.size = 3)
    (v : Value) (n : Nat) (xs : List Value) (hs : a.eval s = v) (hown : w1.ownsRow base e 3 v n xs)
    (blk : Nat) (hblk : w0.heap.size = blk) (hx : a.eval x = .slice (some ⟨blk, 0, none⟩) 1 1)
    (h63 : n + 1 ≤ maxLen) (hbytes : (n + 1) * bytes ≤ 140737488355328) (hbase : base ≤ w1.heap.size)
    (h : ∀ v' w', w'.ownsRow base e 3 v' (n + 1) (xs ++ [.int .i64 k, .int .i64 ln, .string X]) → Below base w1 w' → (∀ b, w1.heap.size ≤ b → b < w0.heap.size → w'.heap[b]? = w0.heap[b]?) → wpList P ops Q rest (a.put o.dst v') w') : wpList P ops Q (o :: rest) a w := by
  subst hw
  subst hblk
  have hb : Below w0.heap.size w0 (w0.alloc (.cells #[.int .i64 k, .int .i64 ln, .string X] e)) := bal (bref w0) _
  have hb1 := btr h10 hb
  have ho2 := own_below hown hb1
  have hs0 := hb.size
  have hs1 := h10.size
  refine wpList_append_own _ hgd s x t ho base e i d 3 bytes ht hi hz hsize hby hzs (by decide) v n xs hs ho2 ⟨w0.heap.size, 0, none⟩ 1 1 [.int .i64 k, .int .i64 ln, .string X] hx rfl (news3 w0 _ _ _ _) (by intro u hu; simp at hu; rcases hu with e | e | e <;> (subst e; rfl)) h63 hbytes (by omega) fun v' w' h2 h3 _ => ?_
  refine h v' w' h2 ((hb1.mono hbase).grown h3 (by omega) (fun b hb => (ho2.lt b hb).1)) (fun b hb1 hb2 => ?_)
  rw [h3.block b (by omega) (fun e => by have := (hown.lt b e.symm).2; omega)]
  exact hb.block b hb2
end Go.Proofs.YtcnnkobiijhegaaDoor
