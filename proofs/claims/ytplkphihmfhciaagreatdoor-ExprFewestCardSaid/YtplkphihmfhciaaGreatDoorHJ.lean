/-
  Expressions: the texts of what is written; parentheses written close; leaving out a pair leaves too few.
-/
import Derived.Test.YtplkphihmfhciaaGreatDoorEV
import Derived.Test.YtplkphihmfhciaaGreatDoorMP
import Derived.Test.YtplkphihmfhciaaGreatDoorHP
namespace Go.Proofs.YtplkphihmfhciaaGreatDoor
open Go Go.RowKit Go.Lib Go.Shelf WM TM EM

theorem pct_len (n : Nat) (h : n < 18446744073709551616) : (pct n).length ≤ 26 := by
 have h1 : (fr (n % 10000)).length ≤ 4 := by
  have := congrArg List.length (fr_parts (n % 10000)).2
  rw [List.length_append, pd_length] at this
  omega
 have h2 : (TM.tl (fr (n % 10000))).length ≤ 5 := by
  unfold TM.tl
  split
  ·simp
  ·simp; omega
 have h3 : (decDigits (n / 10000)).length ≤ 20 := by rw [decDigits_length]; exact nDigits_20 _ (by omega)
 unfold pct
 rw [List.length_append, List.length_append]
 simp
 omega
def Tn (x : List UInt8) : Prop := x.length ≤ 100 ∧ x ≠ [40] ∧ x ≠ [41]
instance (x : List UInt8) : Decidable (Tn x) := by unfold Tn; infer_instance
theorem tn_num (n : Int) (h0 : 0 ≤ n) (h1 : n ≤ 9223372036854775807) : Tn (nT n) := by
 obtain ⟨e1, _⟩ := nT_reads n h0 h1
 refine ⟨?_, ?_, ?_⟩
 ·unfold nT itoa
  rw [if_neg (by omega), decDigits_length]
  have := nDigits_20 n.toNat (by omega)
  omega
 ·intro e; rw [e] at e1; exact absurd e1 (by decide)
 ·intro e; rw [e] at e1; exact absurd e1 (by decide)
theorem tn_rate (n : Int) (h0 : 0 ≤ n) (h1 : n ≤ 1000000) : Tn (qT n) := by
 obtain ⟨e1, _⟩ := qT_reads n h0 h1
 refine ⟨?_, ?_, ?_⟩
 ·have := pct_len n.toNat (by omega)
  unfold qT
  omega
 ·intro e; rw [e] at e1; exact absurd e1 (by decide)
 ·intro e; rw [e] at e1; exact absurd e1 (by decide)
theorem tn_name {x : List UInt8} (h : varOk x = true) : Tn x := by
 refine ⟨?_, ?_, ?_⟩
 ·unfold varOk nmOk at h
  simp only [Bool.and_eq_true, decide_eq_true_eq] at h
  omega
 ·intro e; rw [e] at h; exact absurd h (by decide)
 ·intro e; rw [e] at h; exact absurd h (by decide)
theorem tn_word (o : Int) (h : o ∈ infs ∨ o = 9 ∨ o = 16 ∨ o = 17 ∨ o = 18) : Tn (word o).2 := by
 simp only [infs, List.mem_cons, List.not_mem_nil, or_false] at h
 rcases h with (rfl | rfl | rfl | rfl | rfl | rfl | rfl | rfl | rfl | rfl) | rfl | rfl | rfl | rfl <;> decide

/-! ### Parentheses -/
def dx (x : List UInt8) : Int := if x = [40] then 1 else if x = [41] then -1 else 0
def sm : List Tok → Int
 | [] => 0
 | t :: l => dx t.2.2 + sm l
theorem sm_app (a b : List Tok) : sm (a ++ b) = sm a + sm b := by
 induction a with
 | nil => simp [sm]
 | cons t a ih => simp only [List.cons_append, sm, ih]; omega
def SB (l : List Tok) : Prop := sm l = 0 ∧ (∀ k, sm (l.drop k) ≤ 0) ∧ ∀ t ∈ l, t.2.2.length ≤ 100
theorem SB.nil : SB [] := ⟨rfl, fun k => by simp [sm], fun t ht => by cases ht⟩
theorem SB.app {a b : List Tok} (ha : SB a) (hb : SB b) : SB (a ++ b) := by
 refine ⟨by rw [sm_app, ha.1, hb.1]; rfl, fun k => ?_, fun t ht => ?_⟩
 ·rw [List.drop_append, sm_app]
  have h1 := ha.2.1 k
  have h2 := hb.2.1 (k - a.length)
  omega
 ·rcases List.mem_append.1 ht with h | h
  ·exact ha.2.2 t h
  ·exact hb.2.2 t h
theorem SB.one {k : Int} {x : List UInt8} (h : Tn x) : SB [EM.tk k x] := by
 have hd : dx x = 0 := by unfold dx; rw [if_neg h.2.1, if_neg h.2.2]
 refine ⟨by simp [sm, EM.tk, hd], fun j => ?_, fun t ht => ?_⟩
 ·cases j with
  | zero => simp [sm, EM.tk, hd]
  | succ j => simp [sm]
 ·rw [List.mem_singleton] at ht; subst ht; exact h.1
theorem SB.cons {k : Int} {x : List UInt8} {l : List Tok} (h : Tn x) (hl : SB l) : SB (EM.tk k x :: l) := (SB.one h).app hl
theorem SB.par {l : List Tok} (h : SB l) (b : Bool) : SB (EM.par b l) := by
 cases b with
 | false => exact h
 | true =>
  show SB (EM.tk 4 [40] :: (l ++ [EM.tk 4 [41]]))
  have e1 : sm [EM.tk 4 [41]] = -1 := by simp [sm, EM.tk, dx]
  have e2 : sm (l ++ [EM.tk 4 [41]]) = -1 := by rw [sm_app, h.1, e1]; rfl
  refine ⟨?_, fun k => ?_, fun t ht => ?_⟩
  ·show dx [40] + sm (l ++ [EM.tk 4 [41]]) = 0
   rw [e2]; rfl
  ·cases k with
   | zero =>
    show dx [40] + sm (l ++ [EM.tk 4 [41]]) ≤ 0
    rw [e2]; decide
   | succ k =>
    show sm ((l ++ [EM.tk 4 [41]]).drop k) ≤ 0
    rw [List.drop_append, sm_app]
    have h1 := h.2.1 k
    have h2 : sm ([EM.tk 4 [41]].drop (k - l.length)) ≤ 0 := by
     cases k - l.length with
     | zero => rw [List.drop_zero, e1]; decide
     | succ q => simp [sm]
    omega
  ·rcases List.mem_cons.1 ht with h1 | h1
   ·subst h1; decide
   ·rcases List.mem_append.1 h1 with h2 | h2
    ·exact h.2.2 t h2
    ·rw [List.mem_singleton] at h2; subst h2; decide
theorem vn_args {o n : Int} {s : List UInt8} {a : List Ex} (h : vnames (.mk o n s a) = true) {x : Ex} (hx : x ∈ a) : vnames x = true := by
 unfold vnames at h ⊢
 rw [List.all_eq_true] at h ⊢
 intro y hy
 exact h y (by rw [EM.pre]; exact List.mem_cons_of_mem _ (pre_mem hx hy))
theorem vn_name {o n : Int} {s : List UInt8} {a : List Ex} (h : vnames (.mk o n s a) = true) (h4 : o = 4) : varOk s = true := by
 unfold vnames at h
 rw [List.all_eq_true] at h
 have := h (.mk o n s a) (by rw [EM.pre]; exact List.mem_cons_self)
 unfold nameB at this
 rw [decide_eq_true (show (Ex.mk o n s a).op = 4 from h4)] at this
 exact this
theorem body_SB : ∀ e : Ex, right e = true → vnames e = true → SB (body e) := by
 refine ex_ind _ fun e ih hr hv => ?_
 obtain ⟨o, n, s, a⟩ := e
 obtain ⟨hf, hra⟩ := right_parts hr
 obtain ⟨h1, h2, h3, h4⟩ := fmd_parts hf
 have IH : ∀ x ∈ a, SB (body x) := fun x hx => ih x hx (hra x hx) (vn_args hv hx)
 match a, h1, IH with
 | [], h1, IH =>
  rw [body]
  have ho := opn_zero (o := o) (by simpa using h1.symm)
  rcases ho with rfl | rfl | rfl | rfl
  ·exact SB.one (tn_num n h2 (by simpa [most] using h3))
  ·exact SB.cons (by decide) (SB.one (tn_num n h2 (by simp [most] at h3; omega)))
  ·exact SB.one (tn_rate n h2 (by simpa [most] using h3))
  ·exact SB.one (tn_name (vn_name hv rfl))
 | [x], h1, IH =>
  rw [body]
  refine SB.cons (tn_word o ?_) ((IH x (by simp)).par _)
  rcases opn_one (o := o) (by simpa using h1.symm) with h | h
  ·exact Or.inr (Or.inl h)
  ·exact Or.inr (Or.inr (Or.inl h))
 | [x, y], h1, IH =>
  have hx := IH x (by simp)
  have hy := IH y (by simp)
  have hw := tn_word o (by rcases opn_two (o := o) (by simpa using h1.symm) with h | h | h; exact Or.inl h; exact Or.inr (Or.inr (Or.inr (Or.inl h))); exact Or.inr (Or.inr (Or.inr (Or.inr h))))
  rw [body]
  split
  ·refine SB.cons hw ?_
   have hp := ((hx.app (SB.cons (k := 4) (x := [44]) (by decide) hy))).par true
   have e : EM.par true (body x ++ EM.tk 4 [44] :: body y) = EM.tk 4 [40] :: (body x ++ EM.tk 4 [44] :: (body y ++ [EM.tk 4 [41]])) := by simp [EM.par]
   rw [e] at hp
   exact hp
  ·exact (hx.par _).app (SB.cons hw (hy.par _))
 | [x, y, z], h1, IH =>
  have hx := IH x (by simp)
  have hy := IH y (by simp)
  have hz := IH z (by simp)
  rw [body]
  exact SB.cons (by decide) (hx.app (SB.cons (by decide) (hy.app (SB.cons (by decide) hz))))
 | _ :: _ :: _ :: _ :: _, h1, IH =>
  have := opn_le o
  simp at h1
  omega
theorem gT_SB (e : Ex) : SB (gT e) := by
 unfold gT
 split
 ·rename_i h
  have := vE_ok h
  exact body_SB e this.2.2.1 this.2.2.2
 ·exact SB.nil
def gs (l : List Tok) (i j : Nat) : Int := sm ((l.drop i).take (j - i))
theorem gs_step (l : List Tok) (i j : Nat) (hij : i ≤ j) (hj : j < l.length) : gs l i (j + 1) = gs l i j + dx (l.getD j T0).2.2 := by
 unfold gs
 have h : j - i < (l.drop i).length := by rw [List.length_drop]; omega
 rw [show j + 1 - i = (j - i) + 1 by omega, take_g T0 _ _ h, sm_app]
 have e : (l.drop i).getD (j - i) T0 = l.getD j T0 := by
  simp only [List.getD, List.getElem?_drop]
  rw [show i + (j - i) = j by omega]
 rw [e]
 simp [sm]
theorem gs_all (l : List Tok) (i : Nat) (hl : SB l) : gs l i l.length ≤ 0 := by
 unfold gs
 rw [List.take_of_length_le (by rw [List.length_drop]; exact Nat.le_refl _)]
 exact hl.2.1 i
theorem dx_cases (x : List UInt8) : (x = [40] ∧ dx x = 1) ∨ (x = [41] ∧ dx x = -1) ∨ (x ≠ [40] ∧ x ≠ [41] ∧ dx x = 0) := by
 unfold dx
 by_cases h : x = [40]
 ·exact Or.inl ⟨h, by rw [if_pos h]⟩
 ·by_cases h2 : x = [41]
  ·exact Or.inr (Or.inl ⟨h2, by rw [if_neg h, if_pos h2]⟩)
  ·exact Or.inr (Or.inr ⟨h, h2, by rw [if_neg h, if_neg h2]⟩)
def without (l : List Tok) (i k : Nat) : List Tok := l.take i ++ (l.drop (i + 1)).take (k - (i + 1)) ++ l.drop (k + 1)
theorem cnt_take_drop (l : List Tok) (k : Nat) : cnt (l.take k) + cnt (l.drop k) = cnt l := by rw [← cnt_app, List.take_append_drop]
theorem without_less {l : List Tok} {i k : Nat} (hik : i < k) (hk : k < l.length) (hi : (l.getD i T0).2.2 = [40]) : cnt (without l i k) < cnt l := by
 have h1 := cnt_take_drop l i
 have h2 : l.drop i = l.getD i T0 :: l.drop (i + 1) := drop_g T0 l i (by omega)
 have h3 : cnt (l.drop i) = cnt (l.drop (i + 1)) + 1 := by rw [h2]; exact cnt_at40 hi
 have h4 := cnt_take_drop (l.drop (i + 1)) (k - (i + 1))
 have h5 : (l.drop (i + 1)).drop (k - (i + 1)) = l.drop k := by rw [List.drop_drop]; congr 1; omega
 have h6 : l.drop k = l.getD k T0 :: l.drop (k + 1) := drop_g T0 l k hk
 have h7 : cnt (l.drop (k + 1)) ≤ cnt (l.drop k) := by rw [h6]; exact cnt_at
 unfold without
 rw [cnt_app, cnt_app]
 rw [h5] at h4
 omega
theorem fewer {e : Ex} {i k : Nat} (hik : i < k) (hk : k < (body e).length) (hi : ((body e).getD i T0).2.2 = [40]) {x : Ex} {q : Nat} (h : E 0 (without (body e) i k) (.ok x q [])) : x ≠ e := by
 intro he
 subst he
 have h1 := cnt_reads h
 have h2 := without_less hik hk hi
 omega
end Go.Proofs.YtplkphihmfhciaaGreatDoor
