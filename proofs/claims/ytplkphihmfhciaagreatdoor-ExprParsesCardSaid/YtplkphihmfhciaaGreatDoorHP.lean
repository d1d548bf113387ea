/-
  Reading always ends: what it leaves is shorter by at least a token for each node; every list of tokens has its reading.
-/
import Derived.Test.YtplkphihmfhciaaGreatDoorEM
namespace Go.Proofs.YtplkphihmfhciaaGreatDoor.EM
open Go Go.Lib WM TM
theorem isT_tail {k : Int} {x : List UInt8} {l : List Tok} (h : isT k x l = true) : l.tail.length + 1 = l.length := by
 obtain ⟨t, m, rfl, _⟩ := isT_cons h
 rfl
theorem infL_tail {l : List Tok} (h : infL l ≠ 0) : l.tail.length + 1 = l.length := by
 cases l with
 | nil => exact absurd rfl h
 | cons t m => rfl
theorem siz_one (o n : Int) (s : List UInt8) (a : Ex) : siz (.mk o n s [a]) = siz a + 1 := by rw [siz_mk, sizs_cons, sizs_nil]
theorem siz_two (o n : Int) (s : List UInt8) (a b : Ex) : siz (.mk o n s [a, b]) = siz a + siz b + 1 := by rw [siz_mk, sizs_cons, sizs_cons, sizs_nil]; omega
theorem siz_three (o n : Int) (s : List UInt8) (a b c : Ex) : siz (.mk o n s [a, b, c]) = siz a + siz b + siz c + 1 := by rw [siz_mk, sizs_cons, sizs_cons, sizs_cons, sizs_nil]; omega
theorem siz_nil (o n : Int) (s : List UInt8) : siz (.mk o n s []) = 1 := by rw [siz_mk, sizs_nil]
theorem shrink (n : Nat) : (∀ r l e k m, ex n r l = some (.ok e k m) → siz e + m.length ≤ l.length) ∧ (∀ r e k l e' k' m, lp n r e k l = some (.ok e' k' m) → siz e' + m.length ≤ siz e + l.length) ∧
  (∀ r l e k m, fi n r l = some (.ok e k m) → siz e + m.length ≤ l.length) ∧ (∀ l e k m, pr n l = some (.ok e k m) → siz e + m.length ≤ l.length) ∧ (∀ q l e k m, pair n q l = some (.ok e k m) → siz e + m.length ≤ l.length) := by
 induction n with
 | zero =>
  refine ⟨fun r l e k m h => ?_, fun r e k l e' k' m h => ?_, fun r l e k m h => ?_, fun l e k m h => ?_, fun q l e k m h => ?_⟩
  ·simp [ex] at h
  ·simp [lp] at h
  ·simp [fi] at h
  ·simp [pr] at h
  ·simp [pair] at h
 | succ n ih =>
  obtain ⟨h1, h2, h3, h4, h5⟩ := ih
  refine ⟨fun r l e k m h => ?_, fun r e k l e' k' m h => ?_, fun r l e k m h => ?_, fun l e k m h => ?_, fun q l e k m h => ?_⟩
  ·unfold ex at h
   obtain ⟨e0, k0, m0, ha, hb⟩ := bind_ok h
   have := h3 _ _ _ _ _ ha
   have := h2 _ _ _ _ _ _ _ hb
   omega
  ·unfold lp at h
   split at h
   ·simp only [Option.some.injEq, Out.ok.injEq] at h
    obtain ⟨rfl, rfl, rfl⟩ := h
    exact Nat.le_refl _
   ·rename_i c
    obtain ⟨b, kb, m0, ha, hb⟩ := bind_ok h
    have q1 := h1 _ _ _ _ _ ha
    have q2 := h2 _ _ _ _ _ _ _ hb
    have q3 := infL_tail (l := l) (fun x => c (Or.inl x))
    rw [siz_two] at q2
    omega
  ·unfold fi at h
   split at h
   ·rename_i c
    obtain ⟨a, ka, m1, ha, h⟩ := bind_ok h
    obtain ⟨t1, h⟩ := must_ok h
    obtain ⟨b, kb, m2, hb, h⟩ := bind_ok h
    obtain ⟨t2, h⟩ := must_ok h
    obtain ⟨d, kd, m3, hc, h⟩ := bind_ok h
    simp only [Option.some.injEq, Out.ok.injEq] at h
    obtain ⟨rfl, rfl, rfl⟩ := h
    rw [siz_three]
    have := h1 _ _ _ _ _ ha
    have := h1 _ _ _ _ _ hb
    have := h1 _ _ _ _ _ hc
    have := isT_tail c.2
    have := isT_tail t1
    have := isT_tail t2
    omega
   ·split at h
    ·rename_i c
     obtain ⟨a, ka, m1, ha, h⟩ := bind_ok h
     simp only [Option.some.injEq, Out.ok.injEq] at h
     obtain ⟨rfl, rfl, rfl⟩ := h
     rw [siz_one]
     have := h1 _ _ _ _ _ ha
     have := isT_tail c.2
     omega
    ·split at h
     ·rename_i c
      obtain ⟨a, ka, m1, ha, h⟩ := bind_ok h
      simp only [Option.some.injEq, Out.ok.injEq] at h
      obtain ⟨rfl, rfl, rfl⟩ := h
      rw [siz_one]
      have := h1 _ _ _ _ _ ha
      have := isT_tail c
      omega
     ·exact h4 _ _ _ _ h
  ·unfold pr at h
   split at h
   ·rename_i c
    obtain ⟨a, ka, m1, ha, h⟩ := bind_ok h
    obtain ⟨t1, h⟩ := must_ok h
    simp only [Option.some.injEq, Out.ok.injEq] at h
    obtain ⟨rfl, rfl, rfl⟩ := h
    have := h1 _ _ _ _ _ ha
    have := isT_tail c
    have := isT_tail t1
    omega
   ·split at h
    ·rename_i c
     obtain ⟨t, hl, _, _, rfl, _⟩ := numb_ok h
     have q := isT_tail c
     rw [hl] at q
     rw [siz_nil]
     simp only [List.length_cons] at q
     omega
    ·split at h
     ·rename_i c
      have := h5 _ _ _ _ _ h
      have := isT_tail c
      omega
     ·split at h
      ·rename_i c
       have := h5 _ _ _ _ _ h
       have := isT_tail c
       omega
      ·have h2 := single_ok h
       clear h
       obtain ⟨_, t, rfl, h⟩ := h2
       have : siz e = 1 := by rcases h with ⟨_, _, rfl⟩ | ⟨_, rfl⟩ | ⟨_, _, rfl⟩ <;> exact siz_nil _ _ _
       simp only [List.length_cons]
       omega
  ·unfold pair at h
   obtain ⟨t0, h⟩ := must_ok h
   obtain ⟨a, ka, m1, ha, h⟩ := bind_ok h
   obtain ⟨t1, h⟩ := must_ok h
   obtain ⟨b, kb, m2, hb, h⟩ := bind_ok h
   obtain ⟨t2, h⟩ := must_ok h
   simp only [Option.some.injEq, Out.ok.injEq] at h
   obtain ⟨rfl, rfl, rfl⟩ := h
   rw [siz_two]
   have := h1 _ _ _ _ _ ha
   have := h1 _ _ _ _ _ hb
   have := isT_tail t0
   have := isT_tail t1
   have := isT_tail t2
   omega
theorem E.siz {r : Nat} {l m : List Tok} {e : Ex} {k : Nat} (h : E r l (.ok e k m)) : Go.Proofs.YtplkphihmfhciaaGreatDoor.EM.siz e + m.length ≤ l.length := by
 obtain ⟨n, hn⟩ := h
 exact (shrink n).1 _ _ _ _ _ hn
theorem P.siz {l m : List Tok} {e : Ex} {k : Nat} (h : P l (.ok e k m)) : Go.Proofs.YtplkphihmfhciaaGreatDoor.EM.siz e + m.length ≤ l.length := by
 obtain ⟨n, hn⟩ := h
 exact (shrink n).2.2.2.1 _ _ _ _ hn
theorem F.siz {r : Nat} {l m : List Tok} {e : Ex} {k : Nat} (h : F r l (.ok e k m)) : Go.Proofs.YtplkphihmfhciaaGreatDoor.EM.siz e + m.length ≤ l.length := by
 obtain ⟨n, hn⟩ := h
 exact (shrink n).2.2.1 _ _ _ _ _ hn
theorem E.less {r : Nat} {l m : List Tok} {e : Ex} {k : Nat} (h : E r l (.ok e k m)) : m.length < l.length := by
 have := h.siz
 have := siz_pos e
 omega
theorem F.less {r : Nat} {l m : List Tok} {e : Ex} {k : Nat} (h : F r l (.ok e k m)) : m.length < l.length := by
 have := h.siz
 have := siz_pos e
 omega
theorem numb_tot (op : Int) (l : List Tok) : ∃ o, numb op l = some o := by
 cases l with
 | nil => exact ⟨_, rfl⟩
 | cons t m =>
  by_cases c : t.1 = 2 ∧ nOk t.2.2 = true
  ·exact ⟨.ok (.mk op (nV t.2.2) [] []) 8 m, by simp only [numb, if_pos c]⟩
  ·exact ⟨.bad (t :: m), by simp only [numb, if_neg c]⟩
theorem single_tot (l : List Tok) : ∃ o, single l = some o := by
 cases l with
 | nil => exact ⟨_, rfl⟩
 | cons t m =>
  by_cases c : t.1 = 3
  ·by_cases c2 : qOk t.2.2 = true
   ·exact ⟨.ok (.mk 3 (qV t.2.2) [] []) 8 m, by simp only [single, if_pos c, if_pos c2]⟩
   ·exact ⟨.bad (t :: m), by simp only [single, if_pos c, if_neg c2]⟩
  ·by_cases c2 : t.1 = 1
   ·exact ⟨.ok (.mk 4 0 t.2.2 []) 8 m, by simp only [single, if_neg c, if_pos c2]⟩
   ·obtain ⟨o, ho⟩ := numb_tot 1 (t :: m)
    exact ⟨o, by simp only [single, if_neg c, if_neg c2]; exact ho⟩
theorem tot_step (l : List Tok) (ih : ∀ m : List Tok, m.length < l.length → ∀ r, ∃ o, E r m o) : ∀ r, ∃ o, E r l o := by
 have hQ : ∀ q m, m.length < l.length → ∃ o, Q q m o := by
  intro q m hm
  cases h0 : isT 4 [40] m with
  | false => exact ⟨_, Q.bad0 h0⟩
  | true =>
   have t0 := isT_tail h0
   obtain ⟨o, ho⟩ := ih m.tail (by omega) 0
   cases o with
   | bad m1 => exact ⟨_, Q.bad1 h0 ho⟩
   | ok a ka m1 =>
    have l1 := ho.less
    cases h1 : isT 4 [44] m1 with
    | false => exact ⟨_, Q.bad2 h0 ho h1⟩
    | true =>
     have t1 := isT_tail h1
     obtain ⟨o, hb⟩ := ih m1.tail (by omega) 0
     cases o with
     | bad m2 => exact ⟨_, Q.bad3 h0 ho h1 hb⟩
     | ok b kb m2 =>
      cases h2 : isT 4 [41] m2 with
      | false => exact ⟨_, Q.bad4 h0 ho h1 hb h2⟩
      | true => exact ⟨_, Q.go h0 ho h1 hb h2⟩
 have hP : ∃ o, P l o := by
  cases h0 : isT 4 [40] l with
  | true =>
   have t0 := isT_tail h0
   obtain ⟨o, ho⟩ := ih l.tail (by omega) 0
   cases o with
   | bad m1 => exact ⟨_, P.par1 h0 ho⟩
   | ok a ka m1 =>
    cases h1 : isT 4 [41] m1 with
    | false => exact ⟨_, P.par2 h0 ho h1⟩
    | true => exact ⟨_, P.par h0 ho h1⟩
  | false =>
   cases h1 : isT 4 [36] l with
   | true =>
    obtain ⟨o, ho⟩ := numb_tot 2 l.tail
    exact ⟨_, P.cash h1 ho⟩
   | false =>
    cases h2 : isT 5 wMin l with
    | true =>
     have t0 := isT_tail h2
     obtain ⟨o, ho⟩ := hQ 17 l.tail (by omega)
     exact ⟨_, P.min h2 ho⟩
    | false =>
     cases h3 : isT 5 wMax l with
     | true =>
      have t0 := isT_tail h3
      obtain ⟨o, ho⟩ := hQ 18 l.tail (by omega)
      exact ⟨_, P.max h3 ho⟩
     | false =>
      obtain ⟨o, ho⟩ := single_tot l
      exact ⟨_, P.single h0 h1 h2 h3 ho⟩
 have hF : ∀ r, ∃ o, F r l o := by
  intro r
  by_cases c : r = 0 ∧ isT 5 wIf l = true
  ·obtain ⟨rfl, c⟩ := c
   have t0 := isT_tail c
   obtain ⟨o, ha⟩ := ih l.tail (by omega) 0
   cases o with
   | bad m1 => exact ⟨_, F.cond1 c ha⟩
   | ok a ka m1 =>
    have l1 := ha.less
    cases h1 : isT 5 wThen m1 with
    | false => exact ⟨_, F.cond2 c ha h1⟩
    | true =>
     have t1 := isT_tail h1
     obtain ⟨o, hb⟩ := ih m1.tail (by omega) 0
     cases o with
     | bad m2 => exact ⟨_, F.cond3 c ha h1 hb⟩
     | ok b kb m2 =>
      have l2 := hb.less
      cases h2 : isT 5 wElse m2 with
      | false => exact ⟨_, F.cond4 c ha h1 hb h2⟩
      | true =>
       have t2 := isT_tail h2
       obtain ⟨o, hd⟩ := ih m2.tail (by omega) 0
       cases o with
       | bad m3 => exact ⟨_, F.cond5 c ha h1 hb h2 hd⟩
       | ok d kd m3 => exact ⟨_, F.cond c ha h1 hb h2 hd⟩
  ·by_cases c2 : r ≤ 3 ∧ isT 5 wNot l = true
   ·have t0 := isT_tail c2.2
    obtain ⟨o, ha⟩ := ih l.tail (by omega) 3
    cases o with
    | bad m1 => exact ⟨_, F.not_bad c2.1 c2.2 ha⟩
    | ok a ka m1 => exact ⟨_, F.not c2.1 c2.2 ha⟩
   ·cases c3 : isT 4 [45] l with
    | true =>
     have t0 := isT_tail c3
     obtain ⟨o, ha⟩ := ih l.tail (by omega) 7
     cases o with
     | bad m1 => exact ⟨_, F.neg_bad c3 ha⟩
     | ok a ka m1 => exact ⟨_, F.neg c3 ha⟩
    | false =>
     obtain ⟨o, ho⟩ := hP
     exact ⟨_, F.pr c c2 c3 ho⟩
 have hL : ∀ N (m : List Tok), m.length ≤ N → m.length ≤ l.length → ∀ r e k, ∃ o, L r e k m o := by
  intro N
  induction N with
  | zero =>
   intro m hm _ r e k
   refine ⟨_, L.stop (Or.inl ?_)⟩
   cases m with
   | nil => rfl
   | cons t m => simp at hm
  | succ N ihN =>
   intro m hm hml r e k
   by_cases c : Go.Proofs.YtplkphihmfhciaaGreatDoor.EM.stop r k m
   ·exact ⟨_, L.stop c⟩
   ·have t0 := infL_tail (l := m) (fun x => c (Or.inl x))
    obtain ⟨o, ho⟩ := ih m.tail (by omega) (rk (infL m) + 1)
    cases o with
    | bad m1 => exact ⟨_, L.bad c ho⟩
    | ok b kb m1 =>
     have l1 := ho.less
     obtain ⟨o, hb⟩ := ihN m1 (by omega) (by omega) r (.mk (infL m) 0 [] [e, b]) (rk (infL m))
     exact ⟨_, L.go c ho hb⟩
 intro r
 obtain ⟨o, ho⟩ := hF r
 cases o with
 | bad m1 => exact ⟨_, E.bad ho⟩
 | ok e k m1 =>
  have l1 := ho.less
  obtain ⟨o, hb⟩ := hL _ m1 (Nat.le_refl _) (by omega) r e k
  exact ⟨_, E.go ho hb⟩
theorem total (l : List Tok) (r : Nat) : ∃ o, E r l o := by
 have : ∀ N (l : List Tok), l.length ≤ N → ∀ r, ∃ o, E r l o := by
  intro N
  induction N with
  | zero => exact fun l hl => tot_step l fun m hm => by omega
  | succ N ih => exact fun l hl => tot_step l fun m hm => ih m (by omega)
 exact this _ l (Nat.le_refl _) r

/-! ### The document's own way of reading -/
def ED (r : Nat) (l : List Tok) (o : Out) : Prop := (r ≤ 7 ∧ E r l o) ∨ (r = 8 ∧ P l o)
theorem ED.e {r : Nat} {l : List Tok} {o : Out} (h : ED r l o) (hr : r ≤ 7) : E r l o := by
 rcases h with h | h
 ·exact h.2
 ·omega
theorem ED.p {l : List Tok} {o : Out} (h : ED 8 l o) : P l o := by
 rcases h with h | h
 ·omega
 ·exact h.2
theorem ED.siz {r : Nat} {l m : List Tok} {e : Ex} {k : Nat} (h : ED r l (.ok e k m)) : Go.Proofs.YtplkphihmfhciaaGreatDoor.EM.siz e + m.length ≤ l.length := by
 rcases h with h | h
 ·exact h.2.siz
 ·exact h.2.siz
theorem E.seven_p {l : List Tok} {o : Out} (h : isT 4 [45] l = false) (hp : P l o) : E 7 l o := by
 have hf : F 7 l o := F.pr (by omega) (by omega) h hp
 cases o with
 | bad m => exact E.bad hf
 | ok e k m => exact E.seven hf
def cw (i : Nat) : List UInt8 := if i = 0 then wIf else if i = 1 then wThen else wElse
def cs (i : Nat) : List UInt8 := if i = 0 then [40] else if i = 1 then [44] else [41]
def Cd (l : List Tok) : Nat → List Ex → List Tok → Prop
 | 0, xs, m => xs = [] ∧ m = l
 | i + 1, xs, m => ∃ ys m0 x k, Cd l i ys m0 ∧ isT 5 (cw i) m0 = true ∧ E 0 m0.tail (.ok x k m) ∧ xs = ys ++ [x]
theorem Cd.len {l : List Tok} : ∀ {i : Nat} {xs : List Ex} {m : List Tok}, Cd l i xs m → xs.length = i := by
 intro i
 induction i with
 | zero => rintro xs m ⟨rfl, _⟩; rfl
 | succ i ih => rintro xs m ⟨ys, m0, x, k, h, _, _, rfl⟩; rw [List.length_append, ih h]; rfl
theorem Cd.all {l m : List Tok} {xs : List Ex} (h : Cd l 3 xs m) : E 0 l (.ok (.mk 19 0 [] xs) 0 m) := by
 obtain ⟨ys, m2, c, kc, ⟨zs, m1, b, kb, ⟨us, m0, a, ka, ⟨rfl, rfl⟩, t0, ha, rfl⟩, t1, hb, rfl⟩, t2, hc, rfl⟩ := h
 exact E.cond (F.cond t0 ha t1 hb t2 hc)
theorem Cd.none {l m : List Tok} {xs : List Ex} {i : Nat} (h : Cd l i xs m) (hi : i < 3) (h0 : isT 5 wIf l = true) (ht : isT 5 (cw i) m = false) : E 0 l (.bad m) := by
 match i, h, hi, ht with
 | 0, h, _, ht =>
  obtain ⟨_, rfl⟩ := h
  rw [show cw 0 = wIf from rfl, h0] at ht
  cases ht
 | 1, h, _, ht =>
  obtain ⟨us, m0, a, ka, ⟨rfl, rfl⟩, t0, ha, rfl⟩ := h
  exact E.bad (F.cond2 t0 ha ht)
 | 2, h, _, ht =>
  obtain ⟨zs, m1, b, kb, ⟨us, m0, a, ka, ⟨rfl, rfl⟩, t0, ha, rfl⟩, t1, hb, rfl⟩ := h
  exact E.bad (F.cond4 t0 ha t1 hb ht)
theorem Cd.fails {l m m2 : List Tok} {xs : List Ex} {i : Nat} (h : Cd l i xs m) (hi : i < 3) (ht : isT 5 (cw i) m = true) (hb : E 0 m.tail (.bad m2)) : E 0 l (.bad m2) := by
 match i, h, hi, ht with
 | 0, h, _, ht =>
  obtain ⟨_, rfl⟩ := h
  exact E.bad (F.cond1 ht hb)
 | 1, h, _, ht =>
  obtain ⟨us, m0, a, ka, ⟨rfl, rfl⟩, t0, ha, rfl⟩ := h
  exact E.bad (F.cond3 t0 ha ht hb)
 | 2, h, _, ht =>
  obtain ⟨zs, m1, b, kb, ⟨us, m0, a, ka, ⟨rfl, rfl⟩, t0, ha, rfl⟩, t1, hb', rfl⟩ := h
  exact E.bad (F.cond5 t0 ha t1 hb' ht hb)
def Ch (l : List Tok) : Nat → List Ex → List Tok → Prop
 | 0, xs, m => xs = [] ∧ m = l
 | i + 1, xs, m => ∃ ys m0 x k, Ch l i ys m0 ∧ isT 4 (cs i) m0 = true ∧ E 0 m0.tail (.ok x k m) ∧ xs = ys ++ [x]
theorem Ch.len {l : List Tok} : ∀ {i : Nat} {xs : List Ex} {m : List Tok}, Ch l i xs m → xs.length = i := by
 intro i
 induction i with
 | zero => rintro xs m ⟨rfl, _⟩; rfl
 | succ i ih => rintro xs m ⟨ys, m0, x, k, h, _, _, rfl⟩; rw [List.length_append, ih h]; rfl
theorem Ch.all {l m : List Tok} {xs : List Ex} {q : Int} (h : Ch l 2 xs m) (ht : isT 4 (cs 2) m = true) : Q q l (.ok (.mk q 0 [] xs) 8 m.tail) := by
 obtain ⟨zs, m1, b, kb, ⟨us, m0, a, ka, ⟨rfl, rfl⟩, t0, ha, rfl⟩, t1, hb, rfl⟩ := h
 exact Q.go t0 ha t1 hb ht
theorem Ch.none {l m : List Tok} {xs : List Ex} {q : Int} {i : Nat} (h : Ch l i xs m) (hi : i < 3) (ht : isT 4 (cs i) m = false) : Q q l (.bad m) := by
 match i, h, hi, ht with
 | 0, h, _, ht =>
  obtain ⟨_, rfl⟩ := h
  exact Q.bad0 ht
 | 1, h, _, ht =>
  obtain ⟨us, m0, a, ka, ⟨rfl, rfl⟩, t0, ha, rfl⟩ := h
  exact Q.bad2 t0 ha ht
 | 2, h, _, ht =>
  obtain ⟨zs, m1, b, kb, ⟨us, m0, a, ka, ⟨rfl, rfl⟩, t0, ha, rfl⟩, t1, hb, rfl⟩ := h
  exact Q.bad4 t0 ha t1 hb ht
theorem Ch.fails {l m m2 : List Tok} {xs : List Ex} {q : Int} {i : Nat} (h : Ch l i xs m) (hi : i < 2) (ht : isT 4 (cs i) m = true) (hb : E 0 m.tail (.bad m2)) : Q q l (.bad m2) := by
 match i, h, hi, ht with
 | 0, h, _, ht =>
  obtain ⟨_, rfl⟩ := h
  exact Q.bad1 ht hb
 | 1, h, _, ht =>
  obtain ⟨us, m0, a, ka, ⟨rfl, rfl⟩, t0, ha, rfl⟩ := h
  exact Q.bad3 t0 ha ht hb
/-! ### The operator between two operands, as the document looks for it -/
def op8 (i : Nat) : Int := ([5, 6, 7, 8, 10, 11, 12, 13] : List Int).getD i 0
def sg8 (i : Nat) : List UInt8 := ([[43], [45], [42], [47], [61, 61], [33, 61], [60], [60, 61]] : List (List UInt8)).getD i []
theorem isT_infL {k : Int} {x : List UInt8} {l : List Tok} (h : isT k x l = true) : infL l = inf k x := by
 obtain ⟨t, m, rfl, h1, h2⟩ := isT_cons h
 rw [← h1, ← h2]; rfl
theorem inf8 : ∀ i, i < 8 → inf 4 (sg8 i) = op8 i ∧ op8 i ≠ 0 := by decide
theorem bin_yes {i : Nat} {l : List Tok} {r : Nat} (hi : i < 8) (h : isT 4 (sg8 i) l = true) (hr : rk (op8 i) = r) : bin r l = op8 i := by
 have e := isT_infL h
 rw [(inf8 i hi).1] at e
 unfold bin
 rw [e, if_pos ⟨(inf8 i hi).2, hr⟩]
theorem bin_and {l : List Tok} (h : isT 5 wAnd l = true) : bin 2 l = 14 := by
 have e := isT_infL h
 rw [show inf 5 wAnd = 14 by decide] at e
 unfold bin
 rw [e, if_pos ⟨by decide, by decide⟩]
theorem bin_or {l : List Tok} (h : isT 5 wOr l = true) : bin 1 l = 15 := by
 have e := isT_infL h
 rw [show inf 5 wOr = 15 by decide] at e
 unfold bin
 rw [e, if_pos ⟨by decide, by decide⟩]
theorem sgn_isT {o : Int} {t : Tok} {m : List Tok} (ho : o ∈ infs) (h : sgn o = some (t.1, t.2.2)) : (∃ i, i < 8 ∧ op8 i = o ∧ isT 4 (sg8 i) (t :: m) = true) ∨ (o = 14 ∧ isT 5 wAnd (t :: m) = true) ∨ (o = 15 ∧ isT 5 wOr (t :: m) = true) := by
 have key : ∀ (k : Int) (x : List UInt8), sgn o = some (k, x) → isT k x (t :: m) = true := by
  intro k x hk
  rw [hk] at h
  simp only [Option.some.injEq, Prod.mk.injEq] at h
  simp [isT, h.1, h.2]
 simp only [infs, List.mem_cons, List.not_mem_nil, or_false] at ho
 rcases ho with rfl | rfl | rfl | rfl | rfl | rfl | rfl | rfl | rfl | rfl
 ·exact Or.inl ⟨0, by decide, rfl, key _ _ (by decide)⟩
 ·exact Or.inl ⟨1, by decide, rfl, key _ _ (by decide)⟩
 ·exact Or.inl ⟨2, by decide, rfl, key _ _ (by decide)⟩
 ·exact Or.inl ⟨3, by decide, rfl, key _ _ (by decide)⟩
 ·exact Or.inl ⟨4, by decide, rfl, key _ _ (by decide)⟩
 ·exact Or.inl ⟨5, by decide, rfl, key _ _ (by decide)⟩
 ·exact Or.inl ⟨6, by decide, rfl, key _ _ (by decide)⟩
 ·exact Or.inl ⟨7, by decide, rfl, key _ _ (by decide)⟩
 ·exact Or.inr (Or.inl ⟨rfl, key _ _ (by decide)⟩)
 ·exact Or.inr (Or.inr ⟨rfl, key _ _ (by decide)⟩)
theorem bin_none {l : List Tok} {r : Nat} (h8 : ∀ i, i < 8 → ¬ (rk (op8 i) = r ∧ isT 4 (sg8 i) l = true)) (h2 : ¬ (r = 2 ∧ isT 5 wAnd l = true)) (h1 : ¬ (r = 1 ∧ isT 5 wOr l = true)) : bin r l = 0 := by
 unfold bin
 by_cases c : infL l ≠ 0 ∧ rk (infL l) = r
 ·exfalso
  rcases infL_cases l with h0 | ⟨hi, t, m, rfl, hs⟩
  ·exact c.1 h0
  ·rcases sgn_isT (m := m) hi hs with ⟨i, hi8, he, ht⟩ | ⟨he, ht⟩ | ⟨he, ht⟩
   ·exact h8 i hi8 ⟨by rw [he]; exact c.2, ht⟩
   ·exact h2 ⟨by rw [← c.2, he]; decide, ht⟩
   ·exact h1 ⟨by rw [← c.2, he]; decide, ht⟩
 ·rw [if_neg c]
theorem bin_infs {l : List Tok} {r : Nat} (h : bin r l ≠ 0) : bin r l ∈ infs := by
 unfold bin at h ⊢
 by_cases c : infL l ≠ 0 ∧ rk (infL l) = r
 ·rw [if_pos c]
  rcases infL_cases l with h0 | ⟨hi, _⟩
  ·exact absurd h0 c.1
  ·exact hi
 ·rw [if_neg c] at h; exact absurd rfl h
end Go.Proofs.YtplkphihmfhciaaGreatDoor.EM
