/-
  Tokens: a builder's writing, its length and its text, with all other blocks kept.
-/
import Derived.Test.YtpmappddepkhiaaGreatDoorTA
import Derived.Shelf.Strings.BuilderK
namespace Go.Proofs.YtpmappddepkhiaaGreatDoor
open Go Go.RowKit Go.Lib WM TM

/-- A builder of the call's own, in the block B, holds these bytes. -/
def IsB (B : Nat) (out : List UInt8) (w : World) : Prop := Lib.IsBuilderF 47 5 B B (Lib.byteCells out) w
theorem IsB.lt {B : Nat} {out : List UInt8} {w : World} (h : IsB B out w) : B < w.heap.size := by
  rcases h with h | h
  · exact h.lt
  · exact h.lt
theorem IsB.keep {B : Nat} {out : List UInt8} {w w' : World} (h : IsB B out w) (hb : Below w.heap.size w w') : IsB B out w' := by
  have key : ∀ p, Lib.BuilderAtF 47 5 B B p (Lib.byteCells out) w → Lib.BuilderAtF 47 5 B B p (Lib.byteCells out) w' := by
    rintro p ⟨h1, v, h2, h3, h4⟩
    refine ⟨h1, v, ?_, ⟨h3.1, ?_⟩, h4⟩
    · rw [hb.block B (Array.getElem?_eq_some_iff.1 h2).1]; exact h2
    · rcases h3.2 with hn | ⟨g, cap, cur, fz, rfl, hbg, hg, rest⟩
      · exact Or.inl hn
      · refine Or.inr ⟨g, cap, cur, fz, rfl, hbg, ?_, rest⟩
        rw [hb.block g (Array.getElem?_eq_some_iff.1 hg).1]
        exact hg
  exact h.elim (fun x => .inl (key _ x)) (fun x => .inr (key _ x))
theorem IsB.new (w : World) : IsB w.heap.size [] (w.alloc (.cells #[.pointer none, .slice none 0 0] 47)) :=
  Lib.IsBuilderF.of (Lib.fresh_isBuilder 47 5 w)
theorem bwrite (B : Nat) (out : List UInt8) (s : ByteArray) (w : World) (h : IsB B out w) (hlen : out.length + s.size ≤ 140737488355328) :
    Calls Tryz.prog 20 #[.pointer (some ⟨B, 0, none⟩), .string s] w fun e w' => e = .returned (.tuple #[.int .i64 s.size, .nilIface]) ∧ IsB B (out ++ byt s) w' ∧ Below B w w' ∧ Lib.OthersKept 5 (some B) w w' := by
  have hl : (Lib.byteCells out).length = out.length := Lib.byteCells_length _
  refine (Any.Builder_WriteString_k (ρ := Tryz.lays105_ren) { Tryz.lays105 with } Tryz.Builder_Extra_105 B B (Lib.byteCells out) s w h (by rw [hl]; exact hlen) (Nat.le_of_lt h.lt)).mono fun e w' ⟨he, h1, h2, h3⟩ => ⟨he, ?_, h2, h3⟩
  have e1 : Lib.byteCells out ++ Lib.strCells s = Lib.byteCells (out ++ byt s) := by rw [Lib.byteCells_append, Lib.strCells_eq]; rfl
  rw [e1] at h1
  exact .inr h1
theorem blen (B : Nat) (out : List UInt8) (w : World) (h : IsB B out w) :
    Calls Tryz.prog 22 #[.pointer (some ⟨B, 0, none⟩)] w fun e w' => e = .returned (.int .i64 out.length) ∧ w = w' := by
  refine (Tryz.Builder_Len_f B B (Lib.byteCells out) w h).mono fun e w' ⟨he, hw⟩ => ⟨?_, hw.symm⟩
  rw [he, Lib.byteCells_length]
theorem bstring (B : Nat) (out : List UInt8) (w : World) (h : IsB B out w) :
    Calls Tryz.prog 23 #[.pointer (some ⟨B, 0, none⟩)] w fun e w' => e = .returned (.string (str out)) ∧ Below B w w' := by
  refine (Tryz.Builder_String_any_k B B out w h (Nat.le_of_lt h.lt)).mono fun e w' ⟨he, _, hw, _⟩ => ⟨he, hw⟩
/-- A token's box, whole. -/
def BoxT (W : World) (b : Nat) (k ln : Int) (X : ByteArray) : Prop := W.heap[b]? = some (.cells #[.int .i64 k, .int .i64 ln, .string X] 36 (0, 0))
theorem BoxT.new (W : World) (k ln : Int) (X : ByteArray) : BoxT (W.alloc (.cells #[.int .i64 k, .int .i64 ln, .string X] 36)) W.heap.size k ln X := heap_alloc_new W _
theorem BoxT.cells {W : World} {b : Nat} {k ln : Int} {X : ByteArray} (h : BoxT W b k ln X) : W.cell? ⟨b, 0, none⟩ = some (.int .i64 k) ∧ W.cell? ⟨b, 1, none⟩ = some (.int .i64 ln) ∧ W.cell? ⟨b, 2, none⟩ = some (.string X) := by
  refine ⟨?_, ?_, ?_⟩
  · rw [cell_of_row _ _ 0 _ _ (0, 0) h]; rfl
  · rw [cell_of_row _ _ 1 _ _ (0, 0) h]; rfl
  · rw [cell_of_row _ _ 2 _ _ (0, 0) h]; rfl
theorem BoxT.lt {W : World} {b : Nat} {k ln : Int} {X : ByteArray} (h : BoxT W b k ln X) : b < W.heap.size := (Array.getElem?_eq_some_iff.1 h).1
theorem BoxT.keep {W W' : World} {b : Nat} {k ln : Int} {X : ByteArray} (h : BoxT W b k ln X) (hb : Below W.heap.size W W') : BoxT W' b k ln X := by
  unfold BoxT at *
  rw [hb.block b (Array.getElem?_eq_some_iff.1 h).1]; exact h
theorem BoxT.kept {W W' : World} {b B : Nat} {k ln : Int} {X : ByteArray} (h : BoxT W b k ln X) (hne : b ≠ B) (hk : Lib.OthersKept 5 (some B) W W') : BoxT W' b k ln X :=
  hk b _ h (fun e => hne (Option.some.inj e)) (fun c fz e => by injection e with _ e _; exact absurd e (by decide))
end Go.Proofs.YtpmappddepkhiaaGreatDoor
