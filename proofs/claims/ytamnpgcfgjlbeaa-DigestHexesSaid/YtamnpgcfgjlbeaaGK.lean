/-
  Lists of bytes that the call owns, and their texts.
-/
import Derived.Test.YtamnpgcfgjlbeaaGA
import Derived.Lib.UnsafeStr
import Derived.Laws.BytesArg
namespace Go.Proofs.Ytamnpgcfgjlbeaa
open Go Go.RowKit Go.Lib GM

theorem own_below {w w' : World} {base : Nat} {e : TypeId} {size : Nat} {v : Value} {n : Nat} {xs : List Value} (h : w.ownsRow base e size v n xs) (hb : Below w.heap.size w w') : w'.ownsRow base e size v n xs := by
  refine ⟨h.1, ?_⟩
  rcases h.2 with hn | ⟨g, cap, cur, rfl, hbg, hg, rest⟩
  · exact Or.inl hn
  · refine Or.inr ⟨g, cap, cur, rfl, hbg, ?_, rest⟩
    rw [hb.block g (Array.getElem?_eq_some_iff.1 hg).1]
    exact hg
/-- What a list of the call's own is: its elements lie there. -/
theorem own_cells {w : World} {base n : Nat} {e : TypeId} {v : Value} {l : List Value} (h : w.ownsRow base e 1 v n l) :
    l.length = n ∧ ∃ ao cap, v = .slice ao n cap ∧ n ≤ cap ∧ (∀ a, ao = some a → base ≤ a.block) ∧ (ao = none → n = 0 ∧ cap = 0) ∧ ∀ j (hj : j < l.length), ∃ g, ao = some ⟨g, 0, none⟩ ∧ g < w.heap.size ∧ w.cell? ⟨g, 0 + j, none⟩ = some l[j] := by
  obtain ⟨h0, h1⟩ := h
  have hl : l.length = n := by simpa using h0
  refine ⟨hl, ?_⟩
  rcases h1 with ⟨rfl, rfl⟩ | ⟨g, cap, cur, rfl, hb, hg, hnc, _, hcs, htake⟩
  · exact ⟨none, 0, rfl, Nat.le_refl _, fun a h => (by cases h), fun _ => ⟨rfl, rfl⟩, fun j hj => absurd hj (by omega)⟩
  · refine ⟨some ⟨g, 0, none⟩, cap, rfl, hnc, fun a h => (by cases h; exact hb), fun h => (by cases h), fun j hj => ⟨g, rfl, (Array.getElem?_eq_some_iff.1 hg).1, ?_⟩⟩
    rw [Nat.zero_add, cell_of_row _ _ j cur _ (0, 0) hg]
    have h2 : (cur.toList.take (n * 1))[j]? = l[j]? := by rw [htake]
    rw [List.getElem?_take, if_pos (by omega)] at h2
    rw [← Array.getElem?_toList, h2, List.getElem?_eq_getElem hj]
/-- One cell that was just laid, as 'append' asks for it. -/
theorem news1 (w : World) (z : Value) (t : TypeId) : ∀ ad : Addr, some (⟨w.heap.size, 0, none⟩ : Addr) = some ad → ∀ j u, ([z] : List Value)[j]? = some u → (w.alloc (.cells #[z] t)).cell? (ad.add j) = some u := by
  intro ad e j u hj
  cases e
  match j, hj with
  | 0, hj => simp at hj; subst hj; simp [Addr.add]
theorem one1 (z : Value) (h : z.oneCell' = true) : ∀ u ∈ ([z] : List Value), u.oneCell' = true := by intro u hu; simp at hu; subst hu; exact h
/-- 'append' of one value, just laid, onto a list of the call's own. -/
theorem wpList_append_one {P : Program} {e : TypeId} {w0 w : World} {ops : Array Oper} {rest : List Oper} {o : Oper} {a : Act} {Q : Exit → Act → World → Prop} (z : Value) (hw : w = w0.alloc (.cells #[z] e)) (hgd : o.guard = none) (s x : Operand) (t : TypeId)
    (ho : o.op = .call { callee := .builtin .append, args := #[s, x], argTypes := #[t, t] })
    (base : Nat) (i : TypeInfo) (d : Value) (bytes : Nat) (ht : P.underlying t = some (.slice e)) (hi : P.info? e = some i) (hz : i.zero = some d)
    (hsize : i.size = 1) (hby : i.bytes = bytes) (hzs : d.cells.size = 1)
    (v : Value) (n : Nat) (xs : List Value) (hs : a.eval s = v) (hown : w0.ownsRow base e 1 v n xs)
    (hx : a.eval x = .slice (some ⟨w0.heap.size, 0, none⟩) 1 1) (h1 : z.oneCell' = true)
    (h63 : n + 1 ≤ maxLen) (hbytes : (n + 1) * bytes ≤ 140737488355328) (hbase : base ≤ w0.heap.size)
    (h : ∀ v' w', w'.ownsRow base e 1 v' (n + 1) (xs ++ [z]) → Below base w0 w' → wpList P ops Q rest (a.put o.dst v') w') : wpList P ops Q (o :: rest) a w := by
  subst hw
  have hb : Below w0.heap.size w0 (w0.alloc (.cells #[z] e)) := bal (bref w0) _
  have ho2 := own_below hown hb
  refine wpList_append_own _ hgd s x t ho base e i d 1 bytes ht hi hz hsize hby hzs (by decide) v n xs hs ho2 ⟨w0.heap.size, 0, none⟩ 1 1 [z] hx rfl (news1 w0 z e _ rfl) (one1 z h1) h63 hbytes (by have := hb.size; omega) fun v' w' h2 h3 _ => ?_
  refine h v' w' h2 ?_
  exact (hb.mono hbase).grown h3 (by have := hb.size; omega) (fun b hb => (ho2.lt b hb).1)

/-- The bytes r lie in block b from o on. -/
def BytesAt (b o : Nat) (r : List UInt8) (w : World) : Prop := ∀ j, j < r.length → w.cell? ⟨b, o + j, none⟩ = some (.int .u8 ((r.getD j 0).toNat : Int))
/-- 'string(b)' of such bytes. -/
theorem conv_bytes (b o c : Nat) (r : List UInt8) (n : Nat) (hn : r.length = n) (w : World) (h : BytesAt b o r w) :
    (convert 38 9 (.slice (some ⟨b, o, none⟩) n c)).run Try.prog w = .ok (.string (str r)) w := by
  subst hn
  refine run_convert_bytes_back w 38 9 5 ⟨b, o, none⟩ c r Try.underlying38 Try.underlying5 Try.underlying9 fun j hj => ?_
  have h1 := h j hj
  have e : (⟨b, o, none⟩ : Addr).add j = ⟨b, o + j, none⟩ := by rw [Addr.add_lit]
  rw [e, h1]
  simp [List.getD, hj]
theorem infoB : (Try.prog.info? 5).map (fun i => (i.zero, i.size, i.bytes)) = some (some (.int .u8 0), 1, 1) := by kernel_rfl
theorem own_bytes {w : World} {base n : Nat} {v : Value} {l : List UInt8} (h : w.ownsRow base 5 1 v n (byteCells l)) :
    (convert 38 9 v).run Try.prog w = .ok (.string (str l)) w := by
  obtain ⟨h0, ao, cap, rfl, _, _, hnone, h2⟩ := own_cells h
  have hl : l.length = n := by simpa [byteCells] using h0
  cases ao with
  | none =>
    obtain ⟨rfl, rfl⟩ := hnone rfl
    have hz : l = [] := List.eq_nil_of_length_eq_zero hl
    subst hz
    exact run_convert_bytes_nil w 38 5 Try.underlying38 Try.underlying5 0 0 9 Try.underlying9
  | some a =>
    by_cases hz : n = 0
    · subst hz
      have hz : l = [] := List.eq_nil_of_length_eq_zero hl
      subst hz
      exact run_convert_bytes_back w 38 9 5 a cap [] Try.underlying38 Try.underlying5 Try.underlying9 (fun j hj => absurd hj (Nat.not_lt_zero _))
    · obtain ⟨g, ha, _, _⟩ := h2 0 (by omega)
      cases ha
      refine conv_bytes g 0 cap l n hl w fun j hj => ?_
      obtain ⟨g', ha', _, hc⟩ := h2 j (by simpa [byteCells] using hj)
      cases ha'
      rw [hc]
      simp [byteCells, List.getD, hj]
theorem byteCells_app (a b : List UInt8) : byteCells (a ++ b) = byteCells a ++ byteCells b := by simp [byteCells]
theorem strCells_eq (s : ByteArray) : strCells s = byteCells (byt s) := rfl

end Go.Proofs.Ytamnpgcfgjlbeaa
