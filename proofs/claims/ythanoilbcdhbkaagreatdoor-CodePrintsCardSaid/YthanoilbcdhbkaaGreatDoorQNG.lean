/-
  The document's states: what is known of the stack at each place.
-/
import Derived.Test.YthanoilbcdhbkaaGreatDoorQNE
namespace Go.Proofs.YthanoilbcdhbkaaGreatDoor
open Go Go.RowKit Go.Lib Go.Shelf WM TM EM YM

def DAt (b o : Nat) (s : St) (W : World) : Prop := ∃ (ao : Option Addr) (c : Nat) (l : List Int) (r m : Bool),
 W.cell? ⟨b, o, none⟩ = some (.bool r) ∧ W.cell? ⟨b, o + 1, none⟩ = some (.bool m) ∧ W.cell? ⟨b, o + 2, none⟩ = some (.slice ao l.length c) ∧
 W.frozen? ⟨b, o, none⟩ = false ∧ W.frozen? ⟨b, o + 1, none⟩ = false ∧ W.frozen? ⟨b, o + 2, none⟩ = false ∧
 LI ao c l W ∧ (∀ a, ao = some a → a.block ≠ b) ∧ SVal s r m l
theorem DAt.lt {b o : Nat} {s : St} {W : World} (h : DAt b o s W) : b < W.heap.size := by
 obtain ⟨ao, c, l, r, m, h0, _⟩ := h
 exact World.block_lt_of_cell? W _ h0
theorem DAt.keep {b o : Nat} {s : St} {W W' : World} (h : DAt b o s W) (hb : Below W.heap.size W W') : DAt b o s W' := by
 obtain ⟨ao, c, l, r, m, h0, h1, h2, f0, f1, f2, hl, hx, h3⟩ := h
 exact ⟨ao, c, l, r, m, keepc hb h0, keepc hb h1, keepc hb h2, keepf hb h0 f0, keepf hb h1 f1, keepf hb h2 f2, hl.keep hb, hx, h3⟩
theorem DAt.rest {b o o1 : Nat} {s : St} {W W' : World} (h : DAt b o s W) (hr : Rest b o1 W W') (ho : o + 3 ≤ o1 ∨ o1 + 3 ≤ o) : DAt b o s W' := by
 obtain ⟨ao, c, l, r, m, h0, h1, h2, f0, f1, f2, hl, hx, h3⟩ := h
 exact ⟨ao, c, l, r, m, (hr.cell o (by omega)).trans h0, (hr.cell (o + 1) (by omega)).trans h1, (hr.cell (o + 2) (by omega)).trans h2,
  (hr.froz ⟨b, o, none⟩ rfl).trans f0, (hr.froz ⟨b, o + 1, none⟩ rfl).trans f1, (hr.froz ⟨b, o + 2, none⟩ rfl).trans f2, hl.sav hr.sav (fun a ha e => hx a ha e), hx, h3⟩
def DSs (b n : Nat) (S : Nat → St) (W : World) : Prop := ∀ j, j ≤ n → DAt b (j * 3) (S j) W
theorem DSs.keep {b n : Nat} {S : Nat → St} {W W' : World} (h : DSs b n S W) (hb : Below W.heap.size W W') : DSs b n S W' := fun j hj => (h j hj).keep hb
theorem DSs.put {b n : Nat} {S : Nat → St} {W W' : World} (h : DSs b n S W) (j : Nat) {s : St} (hp : DAt b (j * 3) s W') (hr : Rest b (j * 3) W W') : DSs b n (upd S j s) W' := by
 intro i hi
 by_cases e : i = j
 ·subst e; rw [upd_same]; exact hp
 ·rw [upd_ne _ _ e]; exact (h i hi).rest hr (by omega)
theorem DAt.store {b o : Nat} {s s' : St} {W : World} (h : DAt b o s W) {r m : Bool} {ao : Option Addr} {c : Nat} {l : List Int} (hv : SVal s' r m l) (hl : LI ao c l W) (hx : ∀ a, ao = some a → a.block ≠ b) :
  DAt b o s' (((W.setCell ⟨b, o, none⟩ (.bool r)).setCell ⟨b, o + 1, none⟩ (.bool m)).setCell ⟨b, o + 2, none⟩ (.slice ao l.length c)) ∧ Rest b o W (((W.setCell ⟨b, o, none⟩ (.bool r)).setCell ⟨b, o + 1, none⟩ (.bool m)).setCell ⟨b, o + 2, none⟩ (.slice ao l.length c)) := by
 have hlt := h.lt
 obtain ⟨ao1, c1, l1, r1, m1, h0, h1, h2, f0, f1, f2, _⟩ := h
 have R := (((Rest.of_below (o := o) (bref W) hlt).set o (by omega) (by omega) (.bool r)).set (o + 1) (by omega) (by omega) (.bool m)).set (o + 2) (by omega) (by omega) (.slice ao l.length c)
 refine ⟨⟨ao, c, l, r, m, ?_, ?_, ?_, ?_, ?_, ?_, hl.sav R.sav (fun a ha e => hx a ha e), hx, hv⟩, R⟩
 ·simp [go_sem, h0]
 ·simp [go_sem, h1]
 ·simp [go_sem, h2]
 ·simp [go_sem, f0]
 ·simp [go_sem, f1]
 ·simp [go_sem, f2]
theorem infoSt : (Tryz.prog.info? 96).map (fun i => (i.zero, i.size, i.bytes)) = some (some (.agg #[.bool false, .bool false, .slice none 0 0]), 3, 32) := by kernel_rfl
theorem DSs.made {base b n : Nat} {W : World} (h : W.ownsRow base 96 3 (.slice (some ⟨b, 0, none⟩) (n + 1) (n + 1)) (n + 1) (madeCells #[.bool false, .bool false, .slice none 0 0] ((n + 1) * 3)).toList) : DSs b n (fun _ => none) W := by
 intro j hj
 obtain ⟨m0, m1, m2⟩ := made_at (.bool false) (.bool false) (.slice none 0 0) (n + 1) j (by omega)
 have fz : ∀ x : Nat, W.frozen? ⟨b, x, none⟩ = false := by
  intro x
  rcases h.2 with ⟨h1, _⟩ | ⟨g, cap, cur, hv, _, hg, _⟩
  ·cases h1
  ·cases hv
   unfold World.frozen?
   rw [hg]
   rfl
 refine ⟨none, 0, [], false, false, ?_, ?_, ?_, fz _, fz _, fz _, LI.empty W, (fun a e => by cases e), ⟨by simp, rfl, by simp, fun l' e => by cases e⟩⟩
 ·rw [World.ownsRow.cellAt h _ (by omega), Array.getElem?_toList, m0]
 ·rw [World.ownsRow.cellAt h _ (by omega), Array.getElem?_toList, m1]
 ·rw [World.ownsRow.cellAt h _ (by omega), Array.getElem?_toList, m2]; rfl
theorem DAt.begin {b o : Nat} {W : World} (h : DAt b o none W) (hn : W.cell? ⟨b, o + 2, none⟩ = some (.slice none 0 0)) : DAt b o (some (some [])) (W.setCell ⟨b, o, none⟩ (.bool true)) ∧ Rest b o W (W.setCell ⟨b, o, none⟩ (.bool true)) := by
 have hlt := h.lt
 obtain ⟨ao1, c1, l1, r1, m1, h0, h1, h2, f0, f1, f2, hl, hx, hs⟩ := h
 have R := (Rest.of_below (o := o) (bref W) hlt).set o (by omega) (by omega) (.bool true)
 have hm : m1 = false := by obtain ⟨_, _, h3, _⟩ := hs; simpa using h3
 subst hm
 rw [hn] at h2
 obtain ⟨rfl, e2, rfl⟩ : ao1 = none ∧ l1.length = 0 ∧ c1 = 0 := by have e := Option.some.inj h2; injection e with e1 e2 e3; exact ⟨e1.symm, e2.symm, e3.symm⟩
 obtain rfl : l1 = [] := List.eq_nil_of_length_eq_zero e2
 refine ⟨⟨none, 0, [], true, false, ?_, ?_, ?_, ?_, ?_, ?_, LI.empty _, (fun a e => by cases e), ⟨by simp, rfl, by simp, fun l' e => by cases e; rfl⟩⟩, R⟩
 ·simp [go_sem, h0]
 ·simp [go_sem, h1]
 ·simp [go_sem, hn]
 ·simp [go_sem, f0]
 ·simp [go_sem, f1]
 ·simp [go_sem, f2]
end Go.Proofs.YthanoilbcdhbkaaGreatDoor
