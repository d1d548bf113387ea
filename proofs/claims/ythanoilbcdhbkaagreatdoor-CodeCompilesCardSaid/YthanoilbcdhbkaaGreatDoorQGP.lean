/-
  The document's Names: insert.
-/
import Derived.Test.YthanoilbcdhbkaaGreatDoorQEL
import Derived.Test.YthanoilbcdhbkaaGreatDoorQD
import Derived.Test.YthanoilbcdhbkaaGreatDoorQEB
import Derived.OwnWalk
import Derived.ArgAppend
namespace Go.Proofs.YthanoilbcdhbkaaGreatDoor
open Go Go.RowKit Go.Lib Go.Shelf WM TM EM

theorem infoStr : (Tryz.prog.info? 9).map (fun i => (i.zero, i.size, i.bytes)) = some (some (.string ⟨#[]⟩), 1, 16) := by kernel_rfl
theorem wrap_at (k : Nat) (h : k < 1000000000) : wrap64 ((k : Int) + 1) = ((k + 1 : Nat) : Int) := by unfold wrap64; omega
theorem bl_lt : ∀ (l m : Tx), Op.bytesLess l m = true ↔ l < m := by
 intro l
 induction l with
 | nil =>
  intro m
  cases m with
  | nil => simp [Op.bytesLess]
  | cons b m => simp [Op.bytesLess]
 | cons a l ih =>
  intro m
  cases m with
  | nil => simp [Op.bytesLess]
  | cons b m =>
   have e : Op.bytesLess (a :: l) (b :: m) = (decide (a < b) || (a == b && Op.bytesLess l m)) := rfl
   rw [e, List.cons_lt_cons_iff, Bool.or_eq_true, Bool.and_eq_true, ih]
   simp
def InsR (l : List Tx) (s : Tx) (r : List Tx) : Prop := ∃ k, k ≤ l.length ∧ (∀ i, i < k → Op.bytesLess (l.getD i []) s = true) ∧ (k < l.length → Op.bytesLess (l.getD k []) s = false) ∧
 ((k < l.length ∧ l.getD k [] = s ∧ r = l) ∨ (¬ (k < l.length ∧ l.getD k [] = s) ∧ r = (l.take k ++ [s]) ++ l.drop k))
theorem InsR.len {l : List Tx} {s : Tx} {r : List Tx} (h : InsR l s r) : r.length ≤ l.length + 1 := by
 obtain ⟨k, hk, _, _, h | h⟩ := h
 ·rw [h.2.2]; omega
 ·rw [h.2]; simp; omega
theorem InsR.mem {l : List Tx} {s : Tx} {r : List Tx} (h : InsR l s r) (x : Tx) : x ∈ r ↔ x = s ∨ x ∈ l := by
 obtain ⟨k, hk, _, _, ⟨h1, h2, rfl⟩ | ⟨_, rfl⟩⟩ := h
 ·constructor
  ·exact Or.inr
  ·rintro (rfl | h)
   ·rw [← h2]; exact getD_mem' [] _ k h1
   ·exact h
 ·have e : x ∈ l ↔ x ∈ l.take k ∨ x ∈ l.drop k := by rw [← List.mem_append, List.take_append_drop]
  rw [e]
  simp only [List.mem_append, List.mem_singleton]
  constructor
  ·rintro ((h | h) | h)
   ·exact Or.inr (Or.inl h)
   ·exact Or.inl h
   ·exact Or.inr (Or.inr h)
  ·rintro (h | h | h)
   ·exact Or.inl (Or.inr h)
   ·exact Or.inl (Or.inl h)
   ·exact Or.inr h
theorem InsR.asc {l : List Tx} {s : Tx} {r : List Tx} (h : InsR l s r) (hl : l.Pairwise (· < ·)) : r.Pairwise (· < ·) := by
 obtain ⟨k, hk, h1, h2, ⟨_, _, rfl⟩ | ⟨h3, rfl⟩⟩ := h
 ·exact hl
 ·have hA : ∀ a ∈ l.take k, a < s := by
   intro a ha
   obtain ⟨i, hi, rfl⟩ := List.getElem_of_mem ha
   rw [List.length_take] at hi
   have := h1 i (by omega)
   rw [bl_lt] at this
   have e : l.getD i [] = (l.take k)[i]'(by rw [List.length_take]; omega) := by simp [List.getD, show i < l.length by omega]
   rw [← e]; exact this
  have hS : ∀ b ∈ l.drop k, s < b := by
   intro b hb
   by_cases hk2 : k < l.length
   ·have hb0 : ¬ (l.getD k [] < s) := by rw [← bl_lt, h2 hk2]; decide
    have hne : l.getD k [] ≠ s := fun e => h3 ⟨hk2, e⟩
    have h0 : s < l.getD k [] := lt_of_ne (List.not_lt.1 hb0) (fun e => hne e.symm)
    rw [List.drop_eq_getElem_cons hk2] at hb
    have e : l.getD k [] = l[k] := by simp [List.getD, hk2]
    rw [e] at h0
    rcases List.mem_cons.1 hb with rfl | hb
    ·exact h0
    ·have hp : (l.drop k).Pairwise (· < ·) := hl.sublist (List.drop_sublist k l)
     rw [List.drop_eq_getElem_cons hk2, List.pairwise_cons] at hp
     exact List.lt_trans h0 (hp.1 b hb)
   ·rw [List.drop_eq_nil_of_le (by omega)] at hb; cases hb
  rw [List.append_assoc]
  refine List.pairwise_append.2 ⟨hl.sublist (List.take_sublist k l), ?_, ?_⟩
  ·rw [List.singleton_append, List.pairwise_cons]
   exact ⟨hS, hl.sublist (List.drop_sublist k l)⟩
  ·intro a ha b hb
   rw [List.singleton_append] at hb
   rcases List.mem_cons.1 hb with rfl | hb
   ·exact hA a ha
   ·exact List.lt_trans (hA a ha) (hS b hb)
theorem wpList_append_own_any {P : Program} {w : World} {ops : Array Oper} {rest : List Oper} {o : Oper} {a : Act} {Q : Exit → Act → World → Prop} (hgd : o.guard = none) (s x : Operand) (t : TypeId)
  (ho : o.op = .call { callee := .builtin .append, args := #[s, x], argTypes := #[t, t] })
  (base : Nat) (e : TypeId) (i : TypeInfo) (z : Value) (size bytes : Nat) (ht : P.underlying t = some (.slice e)) (hi : P.info? e = some i) (hz : i.zero = some z)
  (hsize : i.size = size) (hby : i.bytes = bytes) (hzs : z.cells.size = size) (hsz : 0 < size)
  (v : Value) (n : Nat) (xs : List Value) (hs : a.eval s = v) (hown : w.ownsRow base e size v n xs)
  (ao : Option Addr) (m c : Nat) (news : List Value) (hx : a.eval x = .slice ao m c) (hl : news.length = m * size) (hnone : ao = none → m = 0 ∧ c = 0) (hnews : ∀ ad, ao = some ad → ∀ j u, news[j]? = some u → w.cell? (ad.add j) = some u) (h1 : ∀ u ∈ news, u.oneCell' = true)
  (h63 : n + m ≤ maxLen) (hbytes : (n + m) * bytes ≤ 140737488355328) (hbase : base ≤ w.heap.size)
  (h : ∀ v' w', w'.ownsRow base e size v' (n + m) (xs ++ news) → w.grownBy w' v.ownBlock → wpList P ops Q rest (a.put o.dst v') w') : wpList P ops Q (o :: rest) a w := by
 cases ao with
 | some ad => exact wpList_append_own w hgd s x t ho base e i z size bytes ht hi hz hsize hby hzs hsz v n xs hs hown ad m c news hx hl (hnews ad rfl) h1 h63 hbytes hbase fun v' w' h2 h3 _ => h v' w' h2 h3
 | none =>
  obtain ⟨rfl, rfl⟩ := hnone rfl
  have hn : news = [] := List.eq_nil_of_length_eq_zero (by simpa using hl)
  subst hn
  refine wpList_plain hgd fun K hK' => ?_
  have hrun := run_append_owned_none (P := P) (w := w) base t o.type e i size ht hi _ n xs hown
  unfold Oper.wp
  simp [execOp, ho, resolve, invoke, builtin, hs, hx, hrun, Result.andThen]
  exact hK' _ _ (by simpa using h v w (by simpa using hown) (World.grownBy.refl _ _))
def tvs (l : List Tx) : List Value := l.map (fun x => Value.string (str x))
theorem news_ofT {w : World} {ao : Option Addr} {zs : List Tx} (h : TxAt ao zs w) : ∀ ad, ao = some ad → ∀ j u, (tvs zs)[j]? = some u → w.cell? (ad.add j) = some u := by
 intro ad had j u hu
 have hj : j < zs.length := by simpa [tvs] using (List.getElem?_eq_some_iff.1 hu).1
 obtain ⟨b, off, hao, _, c⟩ := h j hj
 rw [had] at hao
 cases hao
 have e : (tvs zs)[j]? = some (.string (str (zs.getD j []))) := by simp [tvs, List.getD, hj]
 rw [e] at hu
 cases hu
 rw [Addr.add_lit]
 exact c
theorem one_tvs (l : List Tx) : ∀ u ∈ tvs l, u.oneCell' = true := by
 intro u hu
 simp only [tvs, List.mem_map] at hu
 obtain ⟨x, _, rfl⟩ := hu
 rfl
def TxL (ao : Option Addr) (c : Nat) (l : List Tx) (W : World) : Prop := TxAt ao l W ∧ (ao = none → l.length = 0 ∧ c = 0) ∧ l.length ≤ c
theorem TxL.keep {ao : Option Addr} {c : Nat} {l : List Tx} {W W' : World} (h : TxL ao c l W) (hb : Below W.heap.size W W') : TxL ao c l W' := ⟨h.1.keep hb, h.2⟩
theorem own_shapeT {w : World} {base n : Nat} {v : Value} {l : List Tx} (h : w.ownsRow base 9 1 v n (tvs l)) :
  l.length = n ∧ ∃ ao cap, v = .slice ao n cap ∧ TxL ao cap l w := by
 obtain ⟨h0, h1⟩ := h
 have hl : l.length = n := by simpa [tvs] using h0
 refine ⟨hl, ?_⟩
 rcases h1 with ⟨rfl, rfl⟩ | ⟨g, cap, cur, rfl, hb, hg, hnc, _, hcs, htake⟩
 ·exact ⟨none, 0, rfl, fun i hi => absurd hi (by omega), fun _ => ⟨by omega, rfl⟩, by omega⟩
 ·refine ⟨some ⟨g, 0, none⟩, cap, rfl, fun j hj => ⟨g, 0, rfl, (Array.getElem?_eq_some_iff.1 hg).1, ?_⟩, (fun h => by cases h), by omega⟩
  rw [Nat.zero_add, cell_of_row _ _ j cur _ (0, 0) hg]
  have h2 : (cur.toList.take (n * 1))[j]? = (tvs l)[j]? := by rw [htake]
  rw [List.getElem?_take, if_pos (by omega)] at h2
  rw [← Array.getElem?_toList, h2]
  simp [tvs, List.getD, hj]
end Go.Proofs.YthanoilbcdhbkaaGreatDoor
