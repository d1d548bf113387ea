/-
  Merged: Tokens: a contract of package token's first. Tokens: lists of tokens in memory, and appending to one. Tokens: a contract of package token's Tokenize.
-/
import Derived.Test.YthanoilbcdhbkaaGreatDoorQTF
import Derived.OwnWalk
import Derived.LoopN
import Derived.ArgAppend
import Derived.Test.YthanoilbcdhbkaaGreatDoorQA
namespace Go.Proofs.YthanoilbcdhbkaaGreatDoor
open Go Go.RowKit Go.Lib WM TM

def fK (l : List UInt8) : Int := if err l = 0 then knd l else 0
def fX (l : List UInt8) : List UInt8 := if err l = 0 then tx l else []
theorem f_name {l : List UInt8} (h : isL (hd l) = true) : fK l = nmK (tx l) ∧ fX l = nmX (tx l) ∧ err l = nmerr (tx l) := by
 have e : err l = nmerr (tx l) := by unfold err; rw [if_pos h]
 refine ⟨?_, ?_, e⟩
 ·unfold fK nmK knd; rw [e, if_pos h]
 ·unfold fX nmX; rw [e]
theorem f_num {l : List UInt8} (h : isL (hd l) = false) (h2 : dig (hd l) = true) : fK l = nuK (tx l) ∧ fX l = nuX (tx l) ∧ err l = nerr (tx l) := by
 have e : err l = nerr (tx l) := by unfold err; rw [h, h2]; rfl
 refine ⟨?_, ?_, e⟩
 ·unfold fK nuK knd; rw [e, h, h2]; rfl
 ·unfold fX nuX; rw [e]
theorem f_mark {l : List UInt8} (h : isL (hd l) = false) (h2 : dig (hd l) = false) : fK l = mkK l ∧ fX l = mkX l ∧ err l = mkE l := by
 have e : err l = mkE l := by unfold err mkE; rw [h, h2]; rfl
 have t : tx l = l.take (mrk l) := by unfold tx; rw [h, h2]; rfl
 refine ⟨?_, ?_, e⟩
 ·unfold fK mkK knd
  rw [e, h, h2]
  unfold mkE
  by_cases q : mrk l = 0
  ·rw [if_pos q, if_pos q]; rfl
  ·rw [if_neg q, if_neg q]; rfl
 ·unfold fX mkX
  rw [e, t]
  unfold mkE
  by_cases q : mrk l = 0
  ·rw [if_pos q, if_pos q]; rfl
  ·rw [if_neg q, if_neg q]; rfl
theorem hd_at (s : ByteArray) (h : 0 < s.size) : hd (byt s) = s[0] := by
 have h1 : s[0] = (byt s)[0]'(by rw [byt_len]; exact h) := rfl
 rw [h1]
 unfold hd
 have key : ∀ (l : List UInt8) (hl : 0 < l.length), l.headD 0 = l[0] := by
  intro l hl
  cases l with
  | nil => exact absurd hl (by decide)
  | cons c t => simp
 exact key (byt s) (by rw [byt_len]; exact h)
theorem kd_L (c : UInt8) : isL c = decide (kd c = 4) := by
 have := u8_all (fun c => isL c == decide (kd c = 4)) (by decide +kernel) c
 exact eq_of_beq this
theorem kd_D (c : UInt8) : dig c = decide (kd c = 5) := by
 have := u8_all (fun c => dig c == decide (kd c = 5)) (by decide +kernel) c
 exact eq_of_beq this
theorem tx_name (s : ByteArray) (h : isL (hd (byt s)) = true) : s.extract 0 (sp isW (byt s)) = str (tx (byt s)) := by
 rw [str_cut]
 unfold tx
 rw [if_pos h, ← take_sp]; rfl
theorem tx_num (s : ByteArray) (h : isL (hd (byt s)) = false) (h2 : dig (hd (byt s)) = true) : s.extract 0 (sp isN (byt s)) = str (tx (byt s)) := by
 rw [str_cut]
 unfold tx
 rw [h, h2, if_neg (by decide), if_pos rfl, ← take_sp]; rfl
theorem kinds_new2 (w : World) (o : Obj) (K : List Int) (t : TypeId) : KindsAt (w.heap.size + 1) 0 K ((w.alloc o).alloc (.cells (K.map (Value.int IntKind.i64)).toArray t)) := by
 have h := kinds_new (w.alloc o) K t
 simpa using h

set_option maxRecDepth 100000 in
set_option maxHeartbeats 4000000 in
theorem mfirst (s : ByteArray) (hs0 : 0 < s.size) (hs : s.size ≤ 281474976710600) (w : World) (hM : Mk w) (hE : Er w) :
  Calls Tryz.prog 107 #[.string s] w fun e w' => e = .returned (.tuple #[tokV (fK (byt s)) 0 (fX (byt s)), .int .i64 (err (byt s))]) ∧ Below w.heap.size w w' := by
 have HB : ∀ {x y z : Value} {t : TypeId}, Own3 (w.alloc (.cells #[x, y, z] t)) w.heap.size x y z := fun {x y z t} => Own3.new w x y z t
 have hs0z : (0 : Int) < (s.size : Int) := by omega
 have MK := Lib.hid (mkind s[0])
 have hcv := i32_byte s[0]
 have hh := hd_at s hs0
 have HM := Lib.hid hM
 have HE := Lib.hid hE
 clear hM hE
 have hk4 := kd_L s[0]
 have hk5 := kd_D s[0]
 have hne : byt s ≠ [] := by intro e; rw [← byt_len, e] at hs0; exact absurd hs0 (by decide)
 by_cases c4 : kd s[0] = 4
 ·have g4 : isL (hd (byt s)) = true := by rw [hh, hk4, decide_eq_true c4]
  obtain ⟨e1, e2, e3⟩ := f_name g4
  have MS := fun b off c W hW => mspan s (by omega) [4, 5, 6] b off c (by decide) W hW
  rw [inK_W] at MS
  have hx := tx_name s g4
  have hle := sp_le isW (byt s)
  rw [byt_len] at hle
  have MN := fun W => mnamed (str (tx (byt s))) W
  rw [byt_str, ← e1, ← e2, ← e3] at MN
  obtain ⟨N, hN⟩ : ∃ N, sp isW (byt s) = N := ⟨_, rfl⟩
  obtain ⟨X, hX⟩ : ∃ X, str (tx (byt s)) = X := ⟨_, rfl⟩
  have HT : Hid (tokV (fK (byt s)) 0 (fX (byt s)) = .agg #[.int .i64 (fK (byt s)), .int .i64 0, .string (str (fX (byt s)))]) := Lib.hid rfl
  rw [HT.out] at MN ⊢
  obtain ⟨K, hK⟩ : ∃ K, fK (byt s) = K := ⟨_, rfl⟩
  obtain ⟨Y, hY⟩ : ∃ Y, str (fX (byt s)) = Y := ⟨_, rfl⟩
  obtain ⟨E, hE⟩ : ∃ E, err (byt s) = E := ⟨_, rfl⟩
  rw [hN] at MS hx hle
  rw [hX] at hx MN
  rw [hK, hY, hE] at MN ⊢
  rw [c4] at MK
  have HS := Lib.hid MS
  have HN := Lib.hid MN
  have hnz : (N : Int) ≤ (s.size : Int) := by omega
  clear MS MN c4 g4 e1 e2 e3 hK hY hE hN hX HT hk4 hk5 hh hne
  go_enter Tryz.func107, Tryz.ntmps107
  go_wp2_with fail
  with_reducible refine (MK.out _).mono ?_
  rintro e w1 ⟨rfl, rfl⟩
  go_wp2_with fail
  refine (HS.out _ _ _ _ (kinds_new2 _ _ [4, 5, 6] _)).mono ?_
  rintro e w2 ⟨rfl, rfl⟩
  have B2 : Below w.heap.size w _ := bal (bal (bref w) (.cells #[.int .i64 0, .int .i64 0, .string ⟨#[]⟩] 128)) (.cells (([4, 5, 6] : List Int).map (Value.int IntKind.i64)).toArray 3)
  go_wp2_with fail
  refine (HN.out _).mono ?_
  rintro e w3 ⟨rfl, q3⟩
  have X3 := Own3.keep (Own3.keep HB (bal (bref _) _)) q3
  have Q3 := Lib.hid (btr B2 q3)
  have s3 := X3.lt
  obtain ⟨x0, x1, x2, x3, x4, x5⟩ := X3
  clear q3
  go_wp2_with fail
  refine bodyPost_ret (v := .tuple #[.agg #[.int .i64 K, .int .i64 0, .string Y], .int .i64 E]) (by simp [results, Tryz.results107, go_sem, set_same, x0, x1, x2]) rfl ⟨rfl, ?_⟩
  (repeat (first | exact Q3.out | refine bdr ?_ | refine bal ?_ _ | refine bset ?_ (by simp; done) _))
 by_cases c5 : kd s[0] = 5
 ·have g4 : isL (hd (byt s)) = false := by rw [hh, hk4, decide_eq_false c4]
  have g5 : dig (hd (byt s)) = true := by rw [hh, hk5, decide_eq_true c5]
  obtain ⟨e1, e2, e3⟩ := f_num g4 g5
  have MS := fun b off c W hW => mspan s (by omega) [4, 5, 6, 7] b off c (by decide) W hW
  rw [inK_N] at MS
  have hx := tx_num s g4 g5
  have hle := sp_le isN (byt s)
  rw [byt_len] at hle
  have MN := fun W hW => mnumber (str (tx (byt s))) (by rw [str_size]; have := tx_le (byt s); rw [byt_len] at this; omega) W hW
  rw [byt_str, ← e1, ← e2, ← e3] at MN
  obtain ⟨N, hN⟩ : ∃ N, sp isN (byt s) = N := ⟨_, rfl⟩
  obtain ⟨X, hX⟩ : ∃ X, str (tx (byt s)) = X := ⟨_, rfl⟩
  have HT : Hid (tokV (fK (byt s)) 0 (fX (byt s)) = .agg #[.int .i64 (fK (byt s)), .int .i64 0, .string (str (fX (byt s)))]) := Lib.hid rfl
  rw [HT.out] at MN ⊢
  obtain ⟨K, hK⟩ : ∃ K, fK (byt s) = K := ⟨_, rfl⟩
  obtain ⟨Y, hY⟩ : ∃ Y, str (fX (byt s)) = Y := ⟨_, rfl⟩
  obtain ⟨E, hE⟩ : ∃ E, err (byt s) = E := ⟨_, rfl⟩
  rw [hN] at MS hx hle
  rw [hX] at hx MN
  rw [hK, hY, hE] at MN ⊢
  rw [c5] at MK
  have HS := Lib.hid MS
  have HN := Lib.hid MN
  have hnz : (N : Int) ≤ (s.size : Int) := by omega
  clear MS MN c4 c5 g4 g5 e1 e2 e3 hK hY hE hN hX HT hk4 hk5 hh hne
  go_enter Tryz.func107, Tryz.ntmps107
  go_wp2_with fail
  with_reducible refine (MK.out _).mono ?_
  rintro e w1 ⟨rfl, rfl⟩
  go_wp2_with fail
  refine (HS.out _ _ _ _ (kinds_new2 _ _ [4, 5, 6, 7] _)).mono ?_
  rintro e w2 ⟨rfl, rfl⟩
  have B2 : Below w.heap.size w _ := bal (bal (bref w) (.cells #[.int .i64 0, .int .i64 0, .string ⟨#[]⟩] 128)) (.cells (([4, 5, 6, 7] : List Int).map (Value.int IntKind.i64)).toArray 3)
  go_wp2_with fail
  refine (HN.out _ (HE.out.keep B2)).mono ?_
  rintro e w3 ⟨rfl, q3⟩
  have X3 := Own3.keep (Own3.keep HB (bal (bref _) _)) q3
  have Q3 := Lib.hid (btr B2 q3)
  have s3 := X3.lt
  obtain ⟨x0, x1, x2, x3, x4, x5⟩ := X3
  clear q3
  go_wp2_with fail
  refine bodyPost_ret (v := .tuple #[.agg #[.int .i64 K, .int .i64 0, .string Y], .int .i64 E]) (by simp [results, Tryz.results107, go_sem, set_same, x0, x1, x2]) rfl ⟨rfl, ?_⟩
  (repeat (first | exact Q3.out | refine bdr ?_ | refine bal ?_ _ | refine bset ?_ (by simp; done) _))
 have g4 : isL (hd (byt s)) = false := by rw [hh, hk4, decide_eq_false c4]
 have g5 : dig (hd (byt s)) = false := by rw [hh, hk5, decide_eq_false c5]
 obtain ⟨e1, e2, e3⟩ := f_mark g4 g5
 have MN := fun W hW => mmark s hne W hW
 rw [← e1, ← e2, ← e3] at MN
 have HT : Hid (tokV (fK (byt s)) 0 (fX (byt s)) = .agg #[.int .i64 (fK (byt s)), .int .i64 0, .string (str (fX (byt s)))]) := Lib.hid rfl
 rw [HT.out] at MN ⊢
 obtain ⟨K, hK⟩ : ∃ K, fK (byt s) = K := ⟨_, rfl⟩
 obtain ⟨Y, hY⟩ : ∃ Y, str (fX (byt s)) = Y := ⟨_, rfl⟩
 obtain ⟨E, hE⟩ : ∃ E, err (byt s) = E := ⟨_, rfl⟩
 rw [hK, hY, hE] at MN ⊢
 have b4 : (kd s[0] == 4) = false := by rw [beq_eq_false_iff_ne]; exact c4
 have b5 : (kd s[0] == 5) = false := by rw [beq_eq_false_iff_ne]; exact c5
 obtain ⟨k, hk⟩ : ∃ k, kd s[0] = k := ⟨_, rfl⟩
 rw [hk] at MK b4 b5
 have HN := Lib.hid MN
 clear MN c4 c5 g4 g5 e1 e2 e3 hK hY hE HT hk4 hk5 hh hne hk
 go_enter Tryz.func107, Tryz.ntmps107
 go_wp2_with fail
 with_reducible refine (MK.out _).mono ?_
 rintro e w1 ⟨rfl, rfl⟩
 have B1 : Below w.heap.size w _ := bal (bref w) (.cells #[.int .i64 0, .int .i64 0, .string ⟨#[]⟩] 128)
 go_wp2_with fail
 refine (HN.out _ (HM.out.keep B1)).mono ?_
 rintro e w3 ⟨rfl, q3⟩
 have X3 := Own3.keep HB q3
 have Q3 := Lib.hid (btr B1 q3)
 have s3 := X3.lt
 obtain ⟨x0, x1, x2, x3, x4, x5⟩ := X3
 clear q3
 go_wp2_with fail
 refine bodyPost_ret (v := .tuple #[.agg #[.int .i64 K, .int .i64 0, .string Y], .int .i64 E]) (by simp [results, Tryz.results107, go_sem, set_same, x0, x1, x2]) rfl ⟨rfl, ?_⟩
 (repeat (first | exact Q3.out | refine bdr ?_ | refine bal ?_ _ | refine bset ?_ (by simp; done) _))
end Go.Proofs.YthanoilbcdhbkaaGreatDoor

namespace Go.Proofs.YthanoilbcdhbkaaGreatDoor
open Go Go.RowKit Go.Lib WM TM

def T0 : Tok := (0, 0, [])
def TokensAt (ao : Option Addr) (l : List Tok) (w : World) : Prop := ∀ i, i < l.length → ∃ b off, ao = some ⟨b, off, none⟩ ∧ b < w.heap.size ∧
 w.cell? ⟨b, off + i * 3, none⟩ = some (.int .i64 (l.getD i T0).1) ∧ w.cell? ⟨b, off + i * 3 + 1, none⟩ = some (.int .i64 (l.getD i T0).2.1) ∧ w.cell? ⟨b, off + i * 3 + 2, none⟩ = some (.string (str (l.getD i T0).2.2))
theorem TokensAt.keep {ao : Option Addr} {l : List Tok} {w w' : World} (h : TokensAt ao l w) (hb : Below w.heap.size w w') : TokensAt ao l w' := by
 intro i hi
 obtain ⟨b, off, e, hbw, c1, c2, c3⟩ := h i hi
 exact ⟨b, off, e, by have := hb.size; omega, keepc hb c1, keepc hb c2, keepc hb c3⟩
theorem TokensAt.nil (ao : Option Addr) (w : World) : TokensAt ao [] w := fun _ hi => absurd hi (Nat.not_lt_zero _)
theorem take_g {α : Type} (d : α) (l : List α) (k : Nat) (h : k < l.length) : l.take (k + 1) = l.take k ++ [l.getD k d] := by
 rw [List.take_succ_eq_append_getElem h]; simp [List.getD, h]
def tcells (t : Tok) : List Value := [.int .i64 t.1, .int .i64 t.2.1, .string (str t.2.2)]
def toks : List Tok → List Value
 | [] => []
 | t :: r => tcells t ++ toks r
theorem toks_length (l : List Tok) : (toks l).length = l.length * 3 := by
 induction l with
 | nil => rfl
 | cons t r ih => show (tcells t ++ toks r).length = _; rw [List.length_append, ih, List.length_cons]; show 3 + _ = _; omega
theorem toks_snoc (l : List Tok) (t : Tok) : toks (l ++ [t]) = toks l ++ tcells t := by
 induction l with
 | nil => show tcells t ++ [] = [] ++ tcells t; simp
 | cons u r ih => show tcells u ++ toks (r ++ [t]) = (tcells u ++ toks r) ++ tcells t; rw [ih, List.append_assoc]
theorem toks_at (l : List Tok) : ∀ i, i < l.length → (toks l)[i * 3]? = some (.int .i64 (l.getD i T0).1) ∧ (toks l)[i * 3 + 1]? = some (.int .i64 (l.getD i T0).2.1) ∧ (toks l)[i * 3 + 2]? = some (.string (str (l.getD i T0).2.2)) := by
 induction l with
 | nil => intro i hi; exact absurd hi (Nat.not_lt_zero _)
 | cons t r ih =>
  intro i hi
  cases i with
  | zero => exact ⟨rfl, rfl, rfl⟩
  | succ i =>
   obtain ⟨h1, h2, h3⟩ := ih i (Nat.lt_of_succ_lt_succ hi)
   have e : ∀ j, (toks (t :: r))[(i + 1) * 3 + j]? = (toks r)[i * 3 + j]? := by
    intro j
    show (tcells t ++ toks r)[(i + 1) * 3 + j]? = _
    rw [List.getElem?_append_right (by show 3 ≤ _; omega)]
    congr 1
    show (i + 1) * 3 + j - 3 = _
    omega
   exact ⟨(e 0).trans h1, (e 1).trans h2, (e 2).trans h3⟩
theorem infoTok : (Tryz.prog.info? 128).map (fun i => (i.zero, i.size, i.bytes)) = some (some (.agg #[.int .i64 0, .int .i64 0, .string ⟨#[]⟩]), 3, 32) := by kernel_rfl
theorem own_below {w w' : World} {base : Nat} {e : TypeId} {size : Nat} {v : Value} {n : Nat} {xs : List Value} (h : w.ownsRow base e size v n xs) (hb : Below w.heap.size w w') : w'.ownsRow base e size v n xs := by
 refine ⟨h.1, ?_⟩
 rcases h.2 with hn | ⟨g, cap, cur, rfl, hbg, hg, rest⟩
 ·exact Or.inl hn
 ·refine Or.inr ⟨g, cap, cur, rfl, hbg, ?_, rest⟩
  rw [hb.block g (Array.getElem?_eq_some_iff.1 hg).1]
  exact hg
theorem own_toks {w : World} {base n : Nat} {v : Value} {l : List Tok} (h : w.ownsRow base 128 3 v n (toks l)) :
  l.length = n ∧ ∃ ao cap, v = .slice ao n cap ∧ TokensAt ao l w := by
 obtain ⟨h0, h1⟩ := h
 have hl : l.length = n := by rw [toks_length] at h0; omega
 refine ⟨hl, ?_⟩
 rcases h1 with ⟨rfl, rfl⟩ | ⟨g, cap, cur, rfl, hb, hg, hnc, _, hcs, htake⟩
 ·exact ⟨none, 0, rfl, fun i hi => absurd hi (by omega)⟩
 ·refine ⟨some ⟨g, 0, none⟩, cap, rfl, fun i hi => ⟨g, 0, rfl, (Array.getElem?_eq_some_iff.1 hg).1, ?_⟩⟩
  obtain ⟨t1, t2, t3⟩ := toks_at l i hi
  have key : ∀ (j : Nat) (x : Value), (toks l)[j]? = some x → w.cell? ⟨g, 0 + j, none⟩ = some x := by
   intro j x hx
   have hj : j < (toks l).length := (List.getElem?_eq_some_iff.1 hx).1
   rw [toks_length] at hj
   rw [Nat.zero_add, cell_of_row _ _ j cur _ (0, 0) hg, ← Array.getElem?_toList, ← hx, ← htake, List.getElem?_take, if_pos (by omega)]
  exact ⟨key _ _ t1, key _ _ t2, key _ _ t3⟩
theorem news3 (w : World) (x y z : Value) (t : TypeId) : ∀ j u, ([x, y, z] : List Value)[j]? = some u → (w.alloc (.cells #[x, y, z] t)).cell? ((⟨w.heap.size, 0, none⟩ : Addr).add j) = some u := by
 intro j u hj
 match j, hj with
 | 0, hj => simp at hj; subst hj; simp [Addr.add]
 | 1, hj => simp at hj; subst hj; simp [Addr.add]
 | 2, hj => simp at hj; subst hj; simp [Addr.add]
theorem wpList_append_tok {P : Program} {e : TypeId} {w1 w0 w : World} {ops : Array Oper} {rest : List Oper} {o : Oper} {a : Act} {Q : Exit → Act → World → Prop} (k ln : Int) (X : ByteArray) (hw : w = w0.alloc (.cells #[.int .i64 k, .int .i64 ln, .string X] e)) (h10 : Below w1.heap.size w1 w0) (hgd : o.guard = none) (s x : Operand) (t : TypeId)
  (ho : o.op = .call { callee := .builtin .append, args := #[s, x], argTypes := #[t, t] })
  (base : Nat) (i : TypeInfo) (d : Value) (bytes : Nat) (ht : P.underlying t = some (.slice e)) (hi : P.info? e = some i) (hz : i.zero = some d)
  (hsize : i.size = 3) (hby : i.bytes = bytes) (hzs : d.cells.size = 3)
  (v : Value) (n : Nat) (xs : List Value) (hs : a.eval s = v) (hown : w1.ownsRow base e 3 v n xs)
  (blk : Nat) (hblk : w0.heap.size = blk) (hx : a.eval x = .slice (some ⟨blk, 0, none⟩) 1 1)
  (h63 : n + 1 ≤ maxLen) (hbytes : (n + 1) * bytes ≤ 140737488355328) (hbase : base ≤ w1.heap.size)
  (h : ∀ v' w', w'.ownsRow base e 3 v' (n + 1) (xs ++ [.int .i64 k, .int .i64 ln, .string X]) → Below base w1 w' → (∀ b, w1.heap.size ≤ b → b < w0.heap.size → w'.heap[b]? = w0.heap[b]?) → wpList P ops Q rest (a.put o.dst v') w') : wpList P ops Q (o :: rest) a w := by
 subst hw
 subst hblk
 have hb : Below w0.heap.size w0 (w0.alloc (.cells #[.int .i64 k, .int .i64 ln, .string X] e)) := bal (bref w0) _
 have hb1 := btr h10 hb
 have ho2 := own_below hown hb1
 have hs0 := hb.size
 have hs1 := h10.size
 refine wpList_append_own _ hgd s x t ho base e i d 3 bytes ht hi hz hsize hby hzs (by decide) v n xs hs ho2 ⟨w0.heap.size, 0, none⟩ 1 1 [.int .i64 k, .int .i64 ln, .string X] hx rfl (news3 w0 _ _ _ _) (by intro u hu; simp at hu; rcases hu with e | e | e <;> (subst e; rfl)) h63 hbytes (by omega) fun v' w' h2 h3 _ => ?_
 refine h v' w' h2 ((hb1.mono hbase).grown h3 (by omega) (fun b hb => (ho2.lt b hb).1)) (fun b hb1 hb2 => ?_)
 rw [h3.block b (by omega) (fun e => by have := (hown.lt b e.symm).2; omega)]
 exact hb.block b hb2
end Go.Proofs.YthanoilbcdhbkaaGreatDoor

namespace Go.Proofs.YthanoilbcdhbkaaGreatDoor
open Go Go.RowKit Go.Lib WM TM

def GotK (q : List Tok × Int × Int) (w : World) (e : Ending) (w' : World) : Prop :=
 ∃ ao c, e = .returned (.tuple #[.slice ao q.1.length c, .int .i64 q.2.1, .int .i64 q.2.2]) ∧ TokensAt ao q.1 w' ∧ Below w.heap.size w w'
def strS : Value → Nat
 | .string s => s.size
 | _ => 0
theorem kd_cases (c : UInt8) : (kd c = 2 ∧ c = 10) ∨ (kd c = 1 ∧ (c = 32 ∨ c = 9)) ∨ (kd c = 3 ∧ c = 35) ∨ (kd c ≠ 2 ∧ kd c ≠ 1 ∧ kd c ≠ 3 ∧ beg c) := by
 unfold beg
 have := u8_all (fun c => decide ((kd c = 2 ∧ c = 10) ∨ (kd c = 1 ∧ (c = 32 ∨ c = 9)) ∨ (kd c = 3 ∧ c = 35) ∨ (kd c ≠ 2 ∧ kd c ≠ 1 ∧ kd c ≠ 3 ∧ (c ≠ 10 ∧ ¬ (c = 32 ∨ c = 9) ∧ c ≠ 35)))) (by decide +kernel) c
 exact @of_decide_eq_true _ (by infer_instance) this
theorem cut_tail (R : ByteArray) (k : Nat) : byt (R.extract k R.size) = (byt R).drop k := by
 rw [str_cut, byt_str, ← size_list, List.take_length]; rfl
theorem cut_tail_size (R : ByteArray) (k : Nat) : (R.extract k R.size).size = R.size - k := by
 rw [← byt_len, cut_tail, List.length_drop, byt_len]
theorem byt_cons (R : ByteArray) (h : 0 < R.size) : byt R = R[0] :: (byt R).drop 1 := by
 have h1 : R[0] = (byt R)[0]'(by rw [byt_len]; exact h) := rfl
 rw [h1]
 have key : ∀ (l : List UInt8) (hl : 0 < l.length), l = l[0] :: l.drop 1 := by
  intro l hl
  cases l with
  | nil => exact absurd hl (by decide)
  | cons c t => simp
 exact key (byt R) (by rw [byt_len]; exact h)
theorem hash_drop (r : List UInt8) : (35 :: r : List UInt8).drop (sp (nb 10) (35 :: r)) = r.dropWhile nlf := by
 rw [drop_sp, List.dropWhile_cons, if_pos (by decide)]; rfl
theorem cmb_bad (acc : List Tok) (ln e : Int) (h : e ≠ 0) : cmb acc ([], ln, e) = ([], ln, e) := by unfold cmb; rw [if_neg h]
theorem cmb_end (acc : List Tok) : cmb acc ([], 0, 0) = (acc, 0, 0) := by unfold cmb; rw [if_pos rfl, List.append_nil]

set_option maxRecDepth 100000 in
set_option maxHeartbeats 8000000 in
theorem mtokenize (s : ByteArray) (w : World) (hM : Mk w) (hE : Er w) :
  Calls Tryz.prog 98 #[.string s] w (GotK (TZ (byt s)) w) := by
 obtain ⟨i0, hi, hz0, hz1, hz2⟩ := info_parts infoTok
 have hlen := byt_len s
 by_cases h0 : 2048 < s.size
 ·have hq : TZ (byt s) = ([], 0, 5) := by unfold TZ; rw [if_pos (by omega)]
  have h0z : (2048 : Int) < (s.size : Int) := by omega
  rw [hq]
  clear hq h0 hlen hM hE
  go_enter Tryz.func98, Tryz.ntmps98
  go_wp2_with fail
  go_ret3
  exact ⟨none, 0, rfl, TokensAt.nil _ _, bref _⟩
 ·have h0z : ¬ (2048 : Int) < (s.size : Int) := by omega
  have hq : cmb [] (TK 1 (byt s)) = TZ (byt s) := by rw [cmb_nil, TZ_small (by omega)]
  obtain ⟨q, hQ⟩ : ∃ q, TZ (byt s) = q := ⟨_, rfl⟩
  rw [hQ] at hq ⊢
  have HQ := Lib.hid hq
  have HM := Lib.hid hM
  have HE := Lib.hid hE
  have FC := Lib.hid (fun R h0 hs W hM hE => mfirst R h0 hs W hM hE)
  have KC := Lib.hid (fun c W => mkind c W)
  have CC := Lib.hid (fun R hs W => mcut R 10 hs W)
  clear hq hQ hM hE hlen
  go_enter Tryz.func98, Tryz.ntmps98
  go_wp2_with fail
  go_loopw [5, 6, 7] (fun x i y wr => ∃ (acc : List Tok) (ln : Int) (R : ByteArray), i = .int .i64 ln ∧ y = .string R ∧ acc.length + R.size ≤ s.size ∧ 1 ≤ ln ∧ ln + R.size ≤ s.size + 1 ∧ wr.ownsRow w.heap.size 128 3 x acc.length (toks acc) ∧ cmb acc (TK ln (byt R)) = q ∧ Below w.heap.size w wr) (fun _ _ y _ => strS y)
  case atStart => exact ⟨[], 1, s, rfl, rfl, by simp, by omega, by omega, World.ownsRow_nil _ _ _ _, HQ.out, bref w⟩
  case round =>
   obtain ⟨acc, ln, R, rfl, rfl, h1, h2, h3, hO, hC, hB⟩ := hrel
   obtain ⟨n, hn⟩ : ∃ n, acc.length = n := ⟨_, rfl⟩
   have HN := Lib.hid hn
   rw [hn] at hO h1
   have HO := Lib.hid hO
   have HB := Lib.hid hB
   have hsw := hB.size
   by_cases hR : 0 < R.size
   ·have hne : R.toList.isEmpty = false := by
     rw [toList_data]
     show (byt R).isEmpty = false
     rw [byt_cons R hR]; rfl
    have hRz : (0 : Int) < (R.size : Int) := by omega
    have hR1 : (1 : Int) ≤ (R.size : Int) := by omega
    have hcv := i32_byte R[0]
    have MK := KC.out R[0]
    have hx := byt_cons R hR
    have htl := cut_tail R 1
    have hts := cut_tail_size R 1
    rcases kd_cases R[0] with ⟨hk, hc⟩ | ⟨hk, hc⟩ | ⟨hk, hc⟩ | ⟨k2, k1, k3, hb⟩
    ·rw [hk] at MK
     have HMK := Lib.hid MK
     rw [hx, hc, TK_feed] at hC
     have HC : Hid (cmb acc (TK (ln + 1) (byt (R.extract 1 R.size))) = q) := Lib.hid (by rw [htl]; exact hC)
     have hw : wrap64 (ln + 1) = ln + 1 := by unfold wrap64; omega
     clear MK hk hc hC hx htl hn hO hB
     go_wp2_with fail
     with_reducible refine (HMK.out _).mono ?_
     rintro e w1 ⟨rfl, rfl⟩
     go_wp2_with fail
     go_roundw
     case rel => exact ⟨acc, (ln + 1), R.extract 1 R.size, by first | rfl | go_num, rfl, by rw [HN.out, hts]; omega, by omega, by rw [hts]; omega, by rw [HN.out]; exact HO.out, HC.out, HB.out⟩
     case measure => simp [strS]; omega
    ·rw [hk] at MK
     have HMK := Lib.hid MK
     rw [hx, TK_blank ln _ _ hc] at hC
     have HC : Hid (cmb acc (TK ln (byt (R.extract 1 R.size))) = q) := Lib.hid (by rw [htl]; exact hC)
     clear MK hk hc hC hx htl hn hO hB
     go_wp2_with fail
     with_reducible refine (HMK.out _).mono ?_
     rintro e w1 ⟨rfl, rfl⟩
     go_wp2_with fail
     go_roundw
     case rel => exact ⟨acc, ln, R.extract 1 R.size, rfl, rfl, by rw [HN.out, hts]; omega, by omega, by rw [hts]; omega, by rw [HN.out]; exact HO.out, HC.out, HB.out⟩
     case measure => simp [strS]; omega
    ·rw [hk] at MK
     have HMK := Lib.hid MK
     have CU := CC.out R (by omega)
     have hd := hash_drop ((byt R).drop 1)
     have hx2 := hx
     rw [hc] at hx2
     rw [← hx2] at hd
     rw [hx2, TK_hash, ← hd] at hC
     have hXs : (str ((byt R).takeWhile (nb 10))).size = sp (nb 10) (byt R) := by rw [str_size]; rfl
     obtain ⟨k, hk1⟩ : ∃ k, sp (nb 10) (byt R) = k := ⟨_, rfl⟩
     have hk2 : 1 ≤ k := by
      rw [← hk1, hx2]
      unfold sp
      rw [List.takeWhile_cons, if_pos (by decide)]; simp
     have hk3 : k ≤ R.size := by rw [← hk1, ← byt_len]; exact sp_le _ _
     rw [hk1] at hXs hC
     have HC : Hid (cmb acc (TK ln (byt (R.extract k R.size))) = q) := Lib.hid (by rw [cut_tail]; exact hC)
     have hts2 := cut_tail_size R k
     obtain ⟨X, hX⟩ : ∃ X, str ((byt R).takeWhile (nb 10)) = X := ⟨_, rfl⟩
     rw [hX] at CU hXs
     have hXz : (X.size : Int) = (k : Int) := by omega
     have hXle : (X.size : Int) ≤ (R.size : Int) := by omega
     have HCU := Lib.hid CU
     subst hXs
     clear MK hk hc hC hx hx2 htl hn hO hB CU hd hk1 hX hXz
     go_wp2_with fail
     with_reducible refine (HMK.out _).mono ?_
     rintro e w1 ⟨rfl, rfl⟩
     go_wp2_with fail
     refine (HCU.out _).mono ?_
     rintro e w1 ⟨rfl, q1⟩
     have Q1 := Lib.hid q1
     clear q1
     go_wp2_with fail
     go_roundw
     case rel => exact ⟨acc, ln, R.extract X.size R.size, rfl, rfl, by rw [HN.out, hts2]; omega, by omega, by rw [hts2]; omega, by rw [HN.out]; exact own_below HO.out Q1.out, HC.out, btr HB.out Q1.out⟩
     case measure => simp [strS]; omega
    ·have F0 := fun W hM hE => FC.out R hR (by omega) W hM hE
     obtain ⟨E, hE⟩ : ∃ E, err (byt R) = E := ⟨_, rfl⟩
     have b2 : (kd R[0] == 2) = false := by rw [beq_eq_false_iff_ne]; exact k2
     have b1 : (kd R[0] == 1) = false := by rw [beq_eq_false_iff_ne]; exact k1
     have b3 : (kd R[0] == 3) = false := by rw [beq_eq_false_iff_ne]; exact k3
     obtain ⟨kv, hkv⟩ : ∃ kv, kd R[0] = kv := ⟨_, rfl⟩
     rw [hkv] at b1 b2 b3 MK
     have HMK := Lib.hid MK
     by_cases hE0 : E = 0
     ·have hf1 : fK (byt R) = knd (byt R) := by unfold fK; rw [hE, if_pos hE0]
      have hf2 : fX (byt R) = tx (byt R) := by unfold fX; rw [hE, if_pos hE0]
      have hT : ∀ k x, tokV k 0 x = .agg #[.int .i64 k, .int .i64 0, .string (str x)] := fun _ _ => rfl
      rw [hf1, hf2, hE, hE0, hT] at F0
      have htl2 := tx_le (byt R)
      have htk : cmb (acc ++ [(knd (byt R), ln, tx (byt R))]) (TK ln ((byt R).drop (tx (byt R)).length)) = q := by
       rw [← cmb_psh, ← hC]
       have h5 := TK_tok ln R[0] ((byt R).drop 1) hb (by rw [← hx, hE, hE0])
       rw [← hx] at h5
       rw [h5]
      have htp : 1 ≤ (tx (byt R)).length := by
       obtain ⟨y, hy⟩ := tx_cons R[0] ((byt R).drop 1) (by rw [← hx, hE, hE0])
       rw [← hx] at hy
       rw [hy]; simp
      obtain ⟨K, hK⟩ : ∃ K, knd (byt R) = K := ⟨_, rfl⟩
      obtain ⟨T, hT2⟩ : ∃ T, tx (byt R) = T := ⟨_, rfl⟩
      rw [hK, hT2] at F0 htk
      rw [hT2] at htl2 htp
      have hXs : (str T).size = T.length := str_size T
      rw [byt_len] at htl2
      rw [← hXs, ← cut_tail] at htk
      obtain ⟨X, hX⟩ : ∃ X, str T = X := ⟨_, rfl⟩
      have hxt : tcells (K, ln, T) = [.int .i64 K, .int .i64 ln, .string X] := by rw [← hX]; rfl
      rw [hX] at F0 htk hXs
      have hXz : (X.size : Int) ≤ (R.size : Int) := by omega
      have hXp : 1 ≤ X.size := by omega
      have hts2 := cut_tail_size R X.size
      have HF := Lib.hid F0
      have HC := Lib.hid htk
      have HX := Lib.hid hxt
      clear MK hkv k1 k2 k3 hb hC hx htl hn hO hB F0 hE hE0 hf1 hf2 hT htk hK hT2 hX hxt hXs htl2 htp
      go_wp2_with fail
      with_reducible refine (HMK.out _).mono ?_
      rintro e w1 ⟨rfl, rfl⟩
      go_wp2_with fail
      refine (HF.out _ (HM.out.keep HB.out) (HE.out.keep HB.out)).mono ?_
      rintro e w1 ⟨rfl, q1⟩
      have HO1 := Lib.hid (own_below HO.out q1)
      have B1 := Lib.hid (btr HB.out q1)
      have hsw1 := Nat.le_trans hsw q1.size
      clear q1
      go_wp2_with (at_builtin; refine wpList_append_tok (w1 := w1) K ln X rfl (by repeat (first | exact bref _ | refine bdr ?_ | refine bal ?_ _ | refine bset ?_ (by simp; done) _)) rfl (.tmp 34) (.tmp 36) 124 rfl w.heap.size i0 (.agg #[.int .i64 0, .int .i64 0, .string ⟨#[]⟩]) 32 Tryz.underlying124 hi hz0 hz1 hz2 rfl _ _ _ rfl HO1.out (w1.heap.size + 1) (by simp) rfl (by unfold maxLen; omega) (by omega) hsw1 ?_; intro v5 w5 ox gx bx; have c2 : w5.cell? ⟨w1.heap.size, 2, none⟩ = some (.string X) := (World.cell?_of_block (bx _ (Nat.le_refl _) (by simp))).trans (by simp [go_sem]))
      have ox2 : w5.ownsRow w.heap.size 128 3 v5 (acc ++ [(K, ln, T)]).length (toks (acc ++ [(K, ln, T)])) := by
       rw [List.length_append, HN.out, toks_snoc, HX.out]; exact ox
      have HO2 := Lib.hid ox2
      have HB2 := Lib.hid (B1.out.trans gx)
      clear ox gx bx ox2
      go_roundw
      case rel => exact ⟨acc ++ [(K, ln, T)], ln, R.extract X.size R.size, rfl, rfl, by rw [List.length_append, HN.out, hts2]; simp; omega, by omega, by rw [hts2]; omega, HO2.out, HC.out, HB2.out⟩
      case measure => simp [strS]; omega
     ·have hQ : q = ([], ln, E) := by
       have h5 := TK_err ln R[0] ((byt R).drop 1) hb (by rw [← hx, hE]; exact hE0)
       rw [← hx, hE] at h5
       rw [← hC, h5, cmb_bad _ _ _ hE0]
      have hEb : (E != 0) = true := by rw [bne_iff_ne]; exact hE0
      have hT : ∀ k x, tokV k 0 x = .agg #[.int .i64 k, .int .i64 0, .string (str x)] := fun _ _ => rfl
      rw [hE, hT] at F0
      have HF := Lib.hid F0
      have HQ2 := Lib.hid hQ
      clear MK hkv k1 k2 k3 hb hC hx htl hn hO hB F0 hE hQ hT
      go_wp2_with fail
      with_reducible refine (HMK.out _).mono ?_
      rintro e w1 ⟨rfl, rfl⟩
      go_wp2_with fail
      refine (HF.out _ (HM.out.keep HB.out) (HE.out.keep HB.out)).mono ?_
      rintro e w1 ⟨rfl, q1⟩
      have B1 := Lib.hid (btr HB.out q1)
      have hsw1 := Nat.le_trans hsw q1.size
      clear q1
      go_wp2_with fail
      go_ret3
      obtain rfl := HQ2.out
      refine ⟨none, 0, rfl, TokensAt.nil _ _, ?_⟩
      (repeat (first | exact B1.out | refine bdr ?_ | refine bal ?_ _ | refine bset ?_ (by simp; omega) _))
   ·have hne : R.toList.isEmpty = true := by
     rw [toList_data, List.isEmpty_iff]
     exact List.eq_nil_of_length_eq_zero (by rw [size_list]; omega)
    have hx : byt R = [] := List.eq_nil_of_length_eq_zero (by rw [byt_len]; omega)
    rw [hx, TK_nil, cmb_end] at hC
    have HC := Lib.hid hC
    obtain ⟨_, ao, cap, rfl, hT⟩ := own_toks hO
    have HT := Lib.hid hT
    clear hx hC hO hB hn hT
    go_wp2_with fail
    go_ret3
    obtain rfl := HC.out
    exact ⟨ao, cap, by rw [HN.out]; rfl, HT.out, HB.out⟩
end Go.Proofs.YthanoilbcdhbkaaGreatDoor
