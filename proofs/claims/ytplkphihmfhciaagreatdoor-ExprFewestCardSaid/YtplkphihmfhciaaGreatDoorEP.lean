/-
  The printer: its list of tokens, put, and the ranks.
-/
import Derived.Test.YtplkphihmfhciaaGreatDoorEV
import Derived.Test.YtplkphihmfhciaaGreatDoorTU
namespace Go.Proofs.YtplkphihmfhciaaGreatDoor
open Go Go.RowKit Go.Lib Go.Shelf WM TM EM

def St (pb base : Nat) (v : Value) (l : List Tok) (W : World) : Prop := B1 pb v W ∧ W.ownsRow base 44 3 v l.length (toks l)
structure Pr (pb : Nat) (W W' : World) (v v' : Value) : Prop where
 os : W'.os = W.os
 tape : W'.tape = W.tape
 output : W'.output = W.output
 size : W.heap.size ≤ W'.heap.size
 keeps : ∀ q, q < W.heap.size → q ≠ pb → (∀ g, v.ownBlock = some g → g ≠ q) → W'.heap[q]? = W.heap[q]?
 own : ∀ g, v'.ownBlock = some g → v.ownBlock = some g ∨ W.heap.size ≤ g
theorem Pr.refl (pb : Nat) (W : World) (v : Value) : Pr pb W W v v := ⟨rfl, rfl, rfl, Nat.le_refl _, fun _ _ _ _ => rfl, fun _ h => Or.inl h⟩
theorem Pr.trans {pb : Nat} {A B C : World} {u v w : Value} (h : Pr pb A B u v) (k : Pr pb B C v w) : Pr pb A C u w := by
 refine ⟨k.os.trans h.os, k.tape.trans h.tape, k.output.trans h.output, Nat.le_trans h.size k.size, fun q hq hp hu => ?_, fun g hg => ?_⟩
 ·refine (k.keeps q (Nat.lt_of_lt_of_le hq h.size) hp (fun g hg e => ?_)).trans (h.keeps q hq hp hu)
  rcases h.own g hg with h1 | h1
  ·exact hu g h1 e
  ·omega
 ·rcases k.own g hg with h1 | h1
  ·exact h.own g h1
  ·have := h.size; exact Or.inr (by omega)
theorem Pr.of_below {pb : Nat} {W W' : World} (h : Below W.heap.size W W') (v : Value) : Pr pb W W' v v :=
 ⟨h.os, h.tape, h.output, h.size, fun q hq _ _ => h.block q hq, fun _ hg => Or.inl hg⟩
theorem Pr.below {pb n : Nat} {w W W' : World} {v v' : Value} (h : Pr pb W W' v v') (hb : Below n w W) (hn : n ≤ w.heap.size) (hp : n ≤ pb) (hv : ∀ g, v.ownBlock = some g → n ≤ g) : Below n w W' :=
 ⟨h.os.trans hb.os, h.tape.trans hb.tape, h.output.trans hb.output, Nat.le_trans hb.size h.size, fun q hq => (h.keeps q (by have := hb.size; omega) (by omega) (fun g hg e => by have := hv g hg; omega)).trans (hb.block q hq)⟩
theorem Pr.cell {pb : Nat} {W W' : World} {v v' : Value} (h : Pr pb W W' v v') {p : Addr} {x : Value} (hp : p.block ≠ pb) (hv : ∀ g, v.ownBlock = some g → g ≠ p.block) (hc : W.cell? p = some x) : W'.cell? p = some x :=
 (World.cell?_of_block (h.keeps p.block (World.block_lt_of_cell? W _ hc) hp hv)).trans hc
theorem ownP_lt {b k n : Nat} {e : TypeId} {v : Value} {l : List Value} {W : World} (h : W.ownsRow b e n v k l) {g : Nat} (hg : v.ownBlock = some g) : b ≤ g ∧ g < W.heap.size := by
 rcases own_lt h with ⟨h1, _⟩ | ⟨g', c, h1, h2, h3⟩
 ·rw [h1] at hg; cases hg
 ·rw [h1] at hg
  injection hg with hg
  have hg' : g' = g := hg
  subst hg'
  exact ⟨h2, h3⟩
theorem ownP_same {b k n : Nat} {e : TypeId} {v : Value} {l : List Value} {W W' : World} (h : W.ownsRow b e n v k l) (hs : ∀ g, v.ownBlock = some g → W'.heap[g]? = W.heap[g]?) : W'.ownsRow b e n v k l := by
 rcases own_lt h with ⟨h1, h2⟩ | ⟨g, c, h1, _, _⟩
 ·exact ⟨h.1, Or.inl ⟨h1, h2⟩⟩
 ·rw [h1] at h ⊢
  exact own_same h (hs g (by rw [h1]; rfl))
theorem St.keep {pb base : Nat} {v : Value} {l : List Tok} {W W' : World} (h : St pb base v l W) (hb : Below W.heap.size W W') : St pb base v l W' :=
 ⟨h.1.keep hb, ownP_same h.2 (fun g hg => hb.block g (ownP_lt h.2 hg).2)⟩
theorem ownP_pos {b k n : Nat} {e : TypeId} {v : Value} {l : List Value} {W : World} (h : W.ownsRow b e n v (k + 1) l) : ∃ g c, v = .slice (some ⟨g, 0, none⟩) (k + 1) c ∧ b ≤ g ∧ g < W.heap.size := by
 rcases own_lt h with ⟨_, h2⟩ | h
 ·omega
 ·exact h
theorem b1_of' {b : Nat} {v : Value} {W W' : World} (h : B1 b v W) (hb : W'.heap[b]? = W.heap[b]?) : B1 b v W' :=
 ⟨(World.cell?_of_block (a := ⟨b, 0, none⟩) hb).trans h.1, (World.frozen?_of_block (a := ⟨b, 0, none⟩) hb).trans h.2⟩
theorem wpList_append_at {P : Program} {w : World} {ops : Array Oper} {rest : List Oper} {o : Oper} {a : Act} {Q : Exit → Act → World → Prop}
  (hg : o.guard = none) (s x : Operand) (t : TypeId) (hop : o.op = .call { callee := .builtin .append, args := #[s, x], argTypes := #[t, t] })
  (base : Nat) (e : TypeId) (i : TypeInfo) (z : Value) (size bytes : Nat) (h1 : P.underlying t = some (.slice e)) (h2 : P.info? e = some i) (h3 : i.zero = some z) (h4 : i.size = size) (h5 : i.bytes = bytes) (h6 : z.cells.size = size) (h7 : 0 < size)
  (v : Value) (k : Nat) (xs : List Value) (hs : a.eval s = v) (hown : w.ownsRow base e size v k xs) (ad : Addr) (m c : Nat) (news : List Value) (hx : a.eval x = .slice (some ad) m c) (hn : news.length = m * size)
  (hc : ∀ j u, news[j]? = some u → w.cell? (ad.add j) = some u) (h1c : ∀ u ∈ news, u.oneCell' = true) (b1 : k + m ≤ maxLen) (b2 : (k + m) * bytes ≤ 140737488355328) (b3 : base ≤ w.heap.size)
  (hK : ∀ v' w', w'.ownsRow base e size v' (k + m) (xs ++ news) → w.grownBy w' v.ownBlock → (v'.ownBlock = v.ownBlock ∨ v'.ownBlock = some w.heap.size) → wpList P ops Q rest (a.put o.dst v') w') : wpList P ops Q (o :: rest) a w :=
 wpList_append_own_at w hg s x t hop base e i z size bytes h1 h2 h3 h4 h5 h6 h7 v k xs hs hown ad m c news hx hn hc h1c b1 b2 b3 fun v' w' r1 r2 _ r4 => hK v' w' r1 r2 r4

set_option maxRecDepth 100000 in
set_option maxHeartbeats 4000000 in
theorem mput (pb base : Nat) (v : Value) (l : List Tok) (k : Int) (X : ByteArray) (w : World) (hpb : pb < base) (hbase : base ≤ w.heap.size) (hl : l.length ≤ 1000000) (h : St pb base v l w) :
  Calls Tryz.prog 54 #[.pointer (some ⟨pb, 0, none⟩), .int .i64 k, .string X] w fun r w' => r = .returned (.tuple #[]) ∧ ∃ v', St pb base v' (l ++ [tk k (byt X)]) w' ∧ Pr pb w w' v v' := by
 obtain ⟨i0, hi, hz0, hz1, hz2⟩ := info_parts infoTok
 obtain ⟨⟨p1, p2⟩, hO⟩ := h
 have hpw := World.block_lt_of_cell? w _ p1
 have hob : ∀ Wx : World, (∀ g, v.ownBlock = some g → Wx.heap[g]? = w.heap[g]?) → Wx.ownsRow base 44 3 v l.length (toks l) := fun Wx hWx => ownP_same hO hWx
 have HOB := Lib.hid hob
 have HLT : Hid (∀ g, v.ownBlock = some g → base ≤ g ∧ g < w.heap.size) := Lib.hid (fun g hg => ownP_lt hO hg)
 obtain ⟨n, hn⟩ : ∃ n, l.length = n := ⟨_, rfl⟩
 have HN := Lib.hid hn
 rw [hn] at hl HOB
 clear hob hO hn
 go_enter Tryz.func54, Tryz.ntmps54
 go_wp2_with (at_builtin; refine wpList_append_at rfl (.tmp 10) (.tmp 14) 22 rfl base 44 i0 (.agg #[.int .i64 0, .int .i64 0, .string ⟨#[]⟩]) 3 32 Tryz.underlying22 hi hz0 hz1 hz2 rfl (by decide) v n (toks l) rfl (HOB.out _ (fun g hg => Below.heap_alloc _ _ _ (HLT.out g hg).2)) ⟨w.heap.size, 0, none⟩ 1 1 [.int .i64 k, .int .i64 1, .string X] rfl rfl (news3 w _ _ _ _) (by intro u hu; simp at hu; rcases hu with e | e | e <;> (subst e; rfl)) (by unfold maxLen; omega) (by omega) (by simp; omega) ?_; intro v' w4 hown4 hgrow4 hblk4; have HGW := Lib.hid hgrow4; have HOW := Lib.hid hown4; have HBL := Lib.hid hblk4; have nb1 := b1_of' (show B1 pb v w from ⟨p1, p2⟩) ((hgrow4.block pb (by simp; omega) (fun e => by have := HLT.out pb e.symm; omega)).trans (Below.heap_alloc _ _ _ hpw)); obtain ⟨nb1a, nb1b⟩ := nb1; obtain ⟨g4, c4, rfl, hg4a, hg4b⟩ := ownP_pos hown4; clear hown4 hgrow4 hblk4)
 go_end0
 have hsW4 : w.heap.size ≤ w4.heap.size := by have := HGW.out.size; simp at this; omega
 have hkk : ∀ q, q < w.heap.size → (∀ g, v.ownBlock = some g → g ≠ q) → w4.heap[q]? = w.heap[q]? := fun q hq hne => (HGW.out.block q (by simp; omega) (fun e => hne q e.symm rfl)).trans (Below.heap_alloc _ _ _ hq)
 refine ⟨rfl, _, ⟨⟨World.cell?_setCell_same' _ _ _ (by rw [nb1a]; rfl), by rw [World.frozen?_setCell]; exact nb1b⟩, ?_⟩, ?_⟩
 ·rw [List.length_append, HN.out, toks_snoc]
  have ht : tcells (tk k (byt X)) = [.int .i64 k, .int .i64 1, .string X] := by unfold tcells EM.tk; rw [str_byt]
  rw [ht]
  exact ownP_same HOW.out (fun g hg => Below.heap_setCell w4 ⟨pb, 0, none⟩ _ g (show g ≠ pb by have := (ownP_lt HOW.out hg).1; omega))
 ·refine ⟨HGW.out.os, HGW.out.tape, HGW.out.output, by simpa using hsW4, fun q hq hp hv => (Below.heap_setCell w4 ⟨pb, 0, none⟩ _ q (show q ≠ pb from hp)).trans (hkk q hq hv), fun g hg => ?_⟩
  rcases HBL.out with h | h
  ·exact Or.inl (h.symm.trans hg)
  ·rw [h] at hg
   injection hg with hg
   simp at hg
   exact Or.inr (by omega)

set_option maxRecDepth 100000 in
theorem mbetween (a r k : Int) (X : ByteArray) (w : World) :
  Calls Tryz.prog 55 #[.agg #[.int .i64 a, .int .i64 r, .int .i64 k, .string X]] w fun e w' => e = .returned (.bool (decide (a = 2) && decide (r < 9))) ∧ Below w.heap.size w w' := by
 by_cases h1 : a = 2
 ·by_cases h2 : r < 9
  ·rw [decide_eq_true h1, decide_eq_true h2]
   go_enter Tryz.func55, Tryz.ntmps55
   go_wp2_with fail
   go_ret
   exact ⟨by simp [h1, h2], by repeat (first | exact bref _ | refine bdr ?_ | refine bal ?_ _)⟩
  ·rw [decide_eq_true h1, decide_eq_false h2]
   go_enter Tryz.func55, Tryz.ntmps55
   go_wp2_with fail
   go_ret
   exact ⟨by simp [h1, h2], by repeat (first | exact bref _ | refine bdr ?_ | refine bal ?_ _)⟩
 ·rw [decide_eq_false h1]
  go_enter Tryz.func55, Tryz.ntmps55
  go_wp2_with fail
  go_ret
  exact ⟨by simp [h1], by repeat (first | exact bref _ | refine bdr ?_ | refine bal ?_ _)⟩
set_option maxRecDepth 100000 in
theorem mleftRank (a r k : Int) (X : ByteArray) (hr : 0 ≤ r ∧ r ≤ 9) (w : World) :
  Calls Tryz.prog 47 #[.agg #[.int .i64 a, .int .i64 r, .int .i64 k, .string X]] w fun e w' => e = .returned (.int .i64 (if r = 5 then 6 else r)) ∧ Below w.heap.size w w' := by
 by_cases h1 : r = 5
 ·rw [if_pos h1]
  subst h1
  go_enter Tryz.func47, Tryz.ntmps47
  go_wp2_with fail
  go_ret
  exact ⟨rfl, by repeat (first | exact bref _ | refine bdr ?_ | refine bal ?_ _)⟩
 ·rw [if_neg h1]
  go_enter Tryz.func47, Tryz.ntmps47
  go_wp2_with fail
  go_ret
  exact ⟨rfl, by repeat (first | exact bref _ | refine bdr ?_ | refine bal ?_ _)⟩
set_option maxRecDepth 100000 in
theorem mrightRank (a r k : Int) (X : ByteArray) (hr : 0 ≤ r ∧ r ≤ 9) (w : World) :
  Calls Tryz.prog 48 #[.agg #[.int .i64 a, .int .i64 r, .int .i64 k, .string X]] w fun e w' => e = .returned (.int .i64 (r + 1)) ∧ Below w.heap.size w w' := by
 go_enter Tryz.func48, Tryz.ntmps48
 go_wp2_with fail
 go_ret
 exact ⟨rfl, by repeat (first | exact bref _ | refine bdr ?_ | refine bal ?_ _)⟩
end Go.Proofs.YtplkphihmfhciaaGreatDoor
