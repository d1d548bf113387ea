/-
  Expressions, plain: trees, the tokens written for them, reading by ranks; what is written is read again; no parentheses can be left out.
-/
import Derived.Test.YthanoilbcdhbkaaGreatDoorQA
namespace Go.Proofs.YthanoilbcdhbkaaGreatDoor.EM
open Go Go.Lib WM TM
inductive Ex where
 | mk (op n : Int) (s : List UInt8) (args : List Ex)
instance : Inhabited Ex := ⟨.mk 0 0 [] []⟩
def nOk (x : List UInt8) : Bool := decide (tiE x = 0) && decide (0 ≤ tiV x)
def nV (x : List UInt8) : Int := tiV x
def nT (n : Int) : List UInt8 := itoa n
def qOk (x : List UInt8) : Bool := decide (rE x = 0)
def qV (x : List UInt8) : Int := ((rV x : Nat) : Int)
def qT (n : Int) : List UInt8 := pct n.toNat
theorem nT_reads (n : Int) (h0 : 0 ≤ n) (h1 : n ≤ 9223372036854775807) : nOk (nT n) = true ∧ nV (nT n) = n := by
 obtain ⟨e1, e2⟩ := ti_itoa n ⟨by omega, h1⟩
 refine ⟨?_, e2⟩
 unfold nOk nT
 rw [e1, e2]
 simp [h0]
theorem qT_reads (n : Int) (h0 : 0 ≤ n) (h1 : n ≤ 1000000) : qOk (qT n) = true ∧ qV (qT n) = n := by
 obtain ⟨e1, e2⟩ := rate_pct n.toNat (by omega)
 refine ⟨by unfold qOk qT; rw [e1]; rfl, ?_⟩
 unfold qV qT
 rw [e2]
 omega
def wIf : List UInt8 := [105, 102]
def wThen : List UInt8 := [116, 104, 101, 110]
def wElse : List UInt8 := [101, 108, 115, 101]
def wNot : List UInt8 := [110, 111, 116]
def wAnd : List UInt8 := [97, 110, 100]
def wOr : List UInt8 := [111, 114]
def wMin : List UInt8 := [109, 105, 110]
def wMax : List UInt8 := [109, 97, 120]

def rk (o : Int) : Nat :=
 if o = 19 then 0 else if o = 15 then 1 else if o = 14 then 2 else if o = 16 then 3 else if o = 10 ∨ o = 11 ∨ o = 12 ∨ o = 13 then 4
 else if o = 5 ∨ o = 6 then 5 else if o = 7 ∨ o = 8 then 6 else if o = 9 then 7 else 8
def lr (o : Int) : Nat := if rk o = 4 then 5 else rk o
def sgn (o : Int) : Option (Int × List UInt8) :=
 if o = 5 then some (4, [43]) else if o = 6 then some (4, [45]) else if o = 7 then some (4, [42]) else if o = 8 then some (4, [47])
 else if o = 10 then some (4, [61, 61]) else if o = 11 then some (4, [33, 61]) else if o = 12 then some (4, [60]) else if o = 13 then some (4, [60, 61])
 else if o = 14 then some (5, wAnd) else if o = 15 then some (5, wOr) else none
def infs : List Int := [5, 6, 7, 8, 10, 11, 12, 13, 14, 15]
def inf (k : Int) (x : List UInt8) : Int := (infs.find? fun o => sgn o == some (k, x)).getD 0
def infL : List Tok → Int
 | [] => 0
 | t :: _ => inf t.1 t.2.2
def isT (k : Int) (x : List UInt8) : List Tok → Bool
 | [] => false
 | t :: _ => t.1 == k && t.2.2 == x

inductive Out where
 | ok (e : Ex) (k : Nat) (l : List Tok)
 | bad (l : List Tok)
def Out.thn (f : Ex → Nat → List Tok → Option Out) : Out → Option Out
 | .ok e k m => f e k m
 | .bad m => some (.bad m)
def must (k : Int) (x : List UInt8) (m : List Tok) (f : List Tok → Option Out) : Option Out :=
 if isT k x m = true then f m.tail else some (.bad m)
def numb (op : Int) : List Tok → Option Out
 | [] => some (.bad [])
 | t :: m => if t.1 = 2 ∧ nOk t.2.2 = true then some (.ok (.mk op (nV t.2.2) [] []) 8 m) else some (.bad (t :: m))
def single : List Tok → Option Out
 | [] => some (.bad [])
 | t :: m =>
  if t.1 = 3 then (if qOk t.2.2 = true then some (.ok (.mk 3 (qV t.2.2) [] []) 8 m) else some (.bad (t :: m)))
  else if t.1 = 1 then some (.ok (.mk 4 0 t.2.2 []) 8 m)
  else numb 1 (t :: m)

mutual
def ex : Nat → Nat → List Tok → Option Out
 | 0, _, _ => none
 | n + 1, r, l => (fi n r l).bind (Out.thn fun e k m => lp n r e k m)
def lp : Nat → Nat → Ex → Nat → List Tok → Option Out
 | 0, _, _, _, _ => none
 | n + 1, r, e, k, l =>
  if infL l = 0 ∨ rk (infL l) < r ∨ k < lr (infL l) then some (.ok e k l)
  else (ex n (rk (infL l) + 1) l.tail).bind (Out.thn fun b _ m => lp n r (.mk (infL l) 0 [] [e, b]) (rk (infL l)) m)
def fi : Nat → Nat → List Tok → Option Out
 | 0, _, _ => none
 | n + 1, r, l =>
  if r = 0 ∧ isT 5 wIf l = true then
   (ex n 0 l.tail).bind (Out.thn fun a _ m => must 5 wThen m fun m =>
    (ex n 0 m).bind (Out.thn fun b _ m => must 5 wElse m fun m =>
     (ex n 0 m).bind (Out.thn fun c _ m => some (.ok (.mk 19 0 [] [a, b, c]) 0 m))))
  else if r ≤ 3 ∧ isT 5 wNot l = true then (ex n 3 l.tail).bind (Out.thn fun a _ m => some (.ok (.mk 16 0 [] [a]) 3 m))
  else if isT 4 [45] l = true then (ex n 7 l.tail).bind (Out.thn fun a _ m => some (.ok (.mk 9 0 [] [a]) 7 m))
  else pr n l
def pr : Nat → List Tok → Option Out
 | 0, _ => none
 | n + 1, l =>
  if isT 4 [40] l = true then (ex n 0 l.tail).bind (Out.thn fun a _ m => must 4 [41] m fun m => some (.ok a 8 m))
  else if isT 4 [36] l = true then numb 2 l.tail
  else if isT 5 wMin l = true then pair n 17 l.tail
  else if isT 5 wMax l = true then pair n 18 l.tail
  else single l
def pair : Nat → Int → List Tok → Option Out
 | 0, _, _ => none
 | n + 1, o, l => must 4 [40] l fun m =>
   (ex n 0 m).bind (Out.thn fun a _ m => must 4 [44] m fun m =>
    (ex n 0 m).bind (Out.thn fun b _ m => must 4 [41] m fun m => some (.ok (.mk o 0 [] [a, b]) 8 m)))
end

theorem mono_bind {a b : Option Out} {f g : Ex → Nat → List Tok → Option Out} (h : ∀ o, a = some o → b = some o) (hf : ∀ e k m o, f e k m = some o → g e k m = some o) (o : Out)
  (ho : a.bind (Out.thn f) = some o) : b.bind (Out.thn g) = some o := by
 cases a with
 | none => cases ho
 | some x =>
  rw [h x rfl]
  cases x with
  | ok e k m => exact hf e k m o ho
  | bad m => exact ho
theorem mono_must {k : Int} {x : List UInt8} {m : List Tok} {f g : List Tok → Option Out} (h : ∀ m o, f m = some o → g m = some o) (o : Out) (ho : must k x m f = some o) : must k x m g = some o := by
 unfold must at *
 split <;> rename_i c
 ·rw [if_pos c] at ho; exact h _ _ ho
 ·rw [if_neg c] at ho; exact ho

theorem more (n : Nat) : (∀ r l o, ex n r l = some o → ex (n + 1) r l = some o) ∧ (∀ r e k l o, lp n r e k l = some o → lp (n + 1) r e k l = some o) ∧
  (∀ r l o, fi n r l = some o → fi (n + 1) r l = some o) ∧ (∀ l o, pr n l = some o → pr (n + 1) l = some o) ∧ (∀ q l o, pair n q l = some o → pair (n + 1) q l = some o) := by
 induction n with
 | zero =>
  refine ⟨fun r l o h => ?_, fun r e k l o h => ?_, fun r l o h => ?_, fun l o h => ?_, fun q l o h => ?_⟩
  ·simp [ex] at h
  ·simp [lp] at h
  ·simp [fi] at h
  ·simp [pr] at h
  ·simp [pair] at h
 | succ n ih =>
  obtain ⟨h1, h2, h3, h4, h5⟩ := ih
  refine ⟨fun r l o h => ?_, fun r e k l o h => ?_, fun r l o h => ?_, fun l o h => ?_, fun q l o h => ?_⟩
  ·unfold ex at h ⊢
   exact mono_bind (h3 r l) (fun e k m o => h2 r e k m o) o h
  ·unfold lp at h ⊢
   split <;> rename_i c
   ·rw [if_pos c] at h; exact h
   ·rw [if_neg c] at h
    exact mono_bind (h1 _ _) (fun b _ m o => h2 _ _ _ m o) o h
  ·unfold fi at h ⊢
   split <;> rename_i c
   ·rw [if_pos c] at h
    exact mono_bind (h1 _ _) (fun a _ m o => mono_must (fun m o => mono_bind (h1 _ _) (fun b _ m o => mono_must (fun m o => mono_bind (h1 _ _) (fun c _ m o h => h) o) o) o) o) o h
   ·rw [if_neg c] at h
    split <;> rename_i c2
    ·rw [if_pos c2] at h
     exact mono_bind (h1 _ _) (fun a _ m o h => h) o h
    ·rw [if_neg c2] at h
     split <;> rename_i c3
     ·rw [if_pos c3] at h
      exact mono_bind (h1 _ _) (fun a _ m o h => h) o h
     ·rw [if_neg c3] at h
      exact h4 _ _ h
  ·unfold pr at h ⊢
   split <;> rename_i c
   ·rw [if_pos c] at h
    exact mono_bind (h1 _ _) (fun a _ m o => mono_must (fun m o h => h) o) o h
   ·rw [if_neg c] at h
    split <;> rename_i c2
    ·rw [if_pos c2] at h; exact h
    ·rw [if_neg c2] at h
     split <;> rename_i c3
     ·rw [if_pos c3] at h; exact h5 _ _ _ h
     ·rw [if_neg c3] at h
      split <;> rename_i c4
      ·rw [if_pos c4] at h; exact h5 _ _ _ h
      ·rw [if_neg c4] at h; exact h
  ·unfold pair at h ⊢
   exact mono_must (fun m o => mono_bind (h1 _ _) (fun b _ m o => mono_must (fun m o => mono_bind (h1 _ _) (fun c _ m o => mono_must (fun m o h => h) o) o) o) o) o h
theorem ex_le {n m : Nat} (h : n ≤ m) {r : Nat} {l : List Tok} {o : Out} (ho : ex n r l = some o) : ex m r l = some o := by
 induction h with
 | refl => exact ho
 | step _ ih => exact (more _).1 _ _ _ ih
theorem lp_le {n m : Nat} (h : n ≤ m) {r : Nat} {e : Ex} {k : Nat} {l : List Tok} {o : Out} (ho : lp n r e k l = some o) : lp m r e k l = some o := by
 induction h with
 | refl => exact ho
 | step _ ih => exact (more _).2.1 _ _ _ _ _ ih
theorem fi_le {n m : Nat} (h : n ≤ m) {r : Nat} {l : List Tok} {o : Out} (ho : fi n r l = some o) : fi m r l = some o := by
 induction h with
 | refl => exact ho
 | step _ ih => exact (more _).2.2.1 _ _ _ ih
def E (r : Nat) (l : List Tok) (o : Out) : Prop := ∃ n, ex n r l = some o
def L (r : Nat) (e : Ex) (k : Nat) (l : List Tok) (o : Out) : Prop := ∃ n, lp n r e k l = some o
def F (r : Nat) (l : List Tok) (o : Out) : Prop := ∃ n, fi n r l = some o
def P (l : List Tok) (o : Out) : Prop := ∃ n, pr n l = some o
def Q (q : Int) (l : List Tok) (o : Out) : Prop := ∃ n, pair n q l = some o
theorem E.go {r : Nat} {l m : List Tok} {e : Ex} {k : Nat} {o : Out} (h : F r l (.ok e k m)) (h' : L r e k m o) : E r l o := by
 obtain ⟨n, hn⟩ := h
 obtain ⟨n', hn'⟩ := h'
 refine ⟨max n n' + 1, ?_⟩
 unfold ex
 rw [fi_le (Nat.le_max_left n n') hn]
 exact lp_le (Nat.le_max_right n n') hn'
theorem E.bad {r : Nat} {l m : List Tok} (h : F r l (.bad m)) : E r l (.bad m) := by
 obtain ⟨n, hn⟩ := h
 refine ⟨n + 1, ?_⟩
 unfold ex
 rw [hn]; rfl
def stop (r k : Nat) (l : List Tok) : Prop := infL l = 0 ∨ rk (infL l) < r ∨ k < lr (infL l)
instance (r k : Nat) (l : List Tok) : Decidable (stop r k l) := by unfold stop; infer_instance
theorem L.stop {r k : Nat} {e : Ex} {l : List Tok} (h : stop r k l) : L r e k l (.ok e k l) := ⟨1, by unfold Go.Proofs.YthanoilbcdhbkaaGreatDoor.EM.stop at h; unfold lp; rw [if_pos h]⟩
theorem L.go {r k kb : Nat} {e b : Ex} {l m : List Tok} {o : Out} (h : ¬ Go.Proofs.YthanoilbcdhbkaaGreatDoor.EM.stop r k l) (h1 : E (rk (infL l) + 1) l.tail (.ok b kb m)) (h2 : L r (.mk (infL l) 0 [] [e, b]) (rk (infL l)) m o) : L r e k l o := by
 obtain ⟨n, hn⟩ := h1
 obtain ⟨n', hn'⟩ := h2
 refine ⟨max n n' + 1, ?_⟩
 unfold Go.Proofs.YthanoilbcdhbkaaGreatDoor.EM.stop at h
 unfold lp
 rw [if_neg h, ex_le (Nat.le_max_left n n') hn]
 exact lp_le (Nat.le_max_right n n') hn'
theorem L.bad {r k : Nat} {e : Ex} {l m : List Tok} (h : ¬ Go.Proofs.YthanoilbcdhbkaaGreatDoor.EM.stop r k l) (h1 : E (rk (infL l) + 1) l.tail (.bad m)) : L r e k l (.bad m) := by
 obtain ⟨n, hn⟩ := h1
 refine ⟨n + 1, ?_⟩
 unfold Go.Proofs.YthanoilbcdhbkaaGreatDoor.EM.stop at h
 unfold lp
 rw [if_neg h, hn]; rfl
theorem isT_not {k k' : Int} {x x' : List UInt8} {l : List Tok} (h : isT k x l = true) (hne : (k, x) ≠ (k', x')) : isT k' x' l = false := by
 cases l with
 | nil => rfl
 | cons t l =>
  simp only [isT, Bool.and_eq_true, beq_iff_eq] at h
  simp only [isT, h.1, h.2]
  by_cases c : k = k'
  ·have : x ≠ x' := fun e => hne (by rw [c, e])
   simp [this]
  ·simp [c]
theorem F.cond {l m m2 m3 : List Tok} {a b c : Ex} {ka kb kc : Nat} (h : isT 5 wIf l = true) (h1 : E 0 l.tail (.ok a ka m)) (t1 : isT 5 wThen m = true) (h2 : E 0 m.tail (.ok b kb m2)) (t2 : isT 5 wElse m2 = true)
  (h3 : E 0 m2.tail (.ok c kc m3)) : F 0 l (.ok (.mk 19 0 [] [a, b, c]) 0 m3) := by
 obtain ⟨n1, e1⟩ := h1
 obtain ⟨n2, e2⟩ := h2
 obtain ⟨n3, e3⟩ := h3
 refine ⟨max n1 (max n2 n3) + 1, ?_⟩
 unfold fi
 rw [if_pos ⟨rfl, h⟩, ex_le (by omega) e1]
 simp only [Option.bind_some, Out.thn, must, t1, if_true]
 rw [ex_le (by omega) e2]
 simp only [Option.bind_some, Out.thn, t2, if_true]
 rw [ex_le (by omega) e3]
 rfl
theorem F.not {r : Nat} {l m : List Tok} {a : Ex} {k : Nat} (hr : r ≤ 3) (h : isT 5 wNot l = true) (h1 : E 3 l.tail (.ok a k m)) : F r l (.ok (.mk 16 0 [] [a]) 3 m) := by
 obtain ⟨n1, e1⟩ := h1
 refine ⟨n1 + 1, ?_⟩
 unfold fi
 rw [if_neg (fun x => by rw [isT_not h (by decide)] at x; exact absurd x.2 (by decide)), if_pos ⟨hr, h⟩, e1]; rfl
theorem F.neg {r : Nat} {l m : List Tok} {a : Ex} {k : Nat} (h : isT 4 [45] l = true) (h1 : E 7 l.tail (.ok a k m)) : F r l (.ok (.mk 9 0 [] [a]) 7 m) := by
 obtain ⟨n1, e1⟩ := h1
 refine ⟨n1 + 1, ?_⟩
 unfold fi
 rw [if_neg (fun x => by rw [isT_not h (by decide)] at x; exact absurd x.2 (by decide)), if_neg (fun x => by rw [isT_not h (by decide)] at x; exact absurd x.2 (by decide)), if_pos h, e1]; rfl
theorem F.pr {r : Nat} {l : List Tok} {o : Out} (h1 : ¬ (r = 0 ∧ isT 5 wIf l = true)) (h2 : ¬ (r ≤ 3 ∧ isT 5 wNot l = true)) (h3 : isT 4 [45] l = false) (h : P l o) : F r l o := by
 obtain ⟨n, e⟩ := h
 refine ⟨n + 1, ?_⟩
 unfold fi
 rw [if_neg h1, if_neg h2, if_neg (by rw [h3]; decide)]
 exact e
theorem P.par {l m : List Tok} {a : Ex} {k : Nat} (h : isT 4 [40] l = true) (h1 : E 0 l.tail (.ok a k m)) (t : isT 4 [41] m = true) : P l (.ok a 8 m.tail) := by
 obtain ⟨n, e⟩ := h1
 refine ⟨n + 1, ?_⟩
 unfold Go.Proofs.YthanoilbcdhbkaaGreatDoor.EM.pr
 rw [if_pos h, e]
 simp [Out.thn, must, t]
theorem P.cash {l : List Tok} {o : Out} (h : isT 4 [36] l = true) (h1 : numb 2 l.tail = some o) : P l o :=
 ⟨1, by unfold Go.Proofs.YthanoilbcdhbkaaGreatDoor.EM.pr; rw [if_neg (by rw [isT_not h (by decide)]; decide), if_pos h, h1]⟩
theorem P.min {l : List Tok} {o : Out} (h : isT 5 wMin l = true) (h1 : Q 17 l.tail o) : P l o := by
 obtain ⟨n, e⟩ := h1
 exact ⟨n + 1, by unfold Go.Proofs.YthanoilbcdhbkaaGreatDoor.EM.pr; rw [if_neg (by rw [isT_not h (by decide)]; decide), if_neg (by rw [isT_not h (by decide)]; decide), if_pos h, e]⟩
theorem P.max {l : List Tok} {o : Out} (h : isT 5 wMax l = true) (h1 : Q 18 l.tail o) : P l o := by
 obtain ⟨n, e⟩ := h1
 exact ⟨n + 1, by unfold Go.Proofs.YthanoilbcdhbkaaGreatDoor.EM.pr; rw [if_neg (by rw [isT_not h (by decide)]; decide), if_neg (by rw [isT_not h (by decide)]; decide), if_neg (by rw [isT_not h (by decide)]; decide), if_pos h, e]⟩
theorem P.single {l : List Tok} {o : Out} (h1 : isT 4 [40] l = false) (h2 : isT 4 [36] l = false) (h3 : isT 5 wMin l = false) (h4 : isT 5 wMax l = false) (h : Go.Proofs.YthanoilbcdhbkaaGreatDoor.EM.single l = some o) : P l o :=
 ⟨1, by unfold Go.Proofs.YthanoilbcdhbkaaGreatDoor.EM.pr; rw [if_neg (by rw [h1]; decide), if_neg (by rw [h2]; decide), if_neg (by rw [h3]; decide), if_neg (by rw [h4]; decide), h]⟩
theorem Q.go {q : Int} {l m m2 : List Tok} {a b : Ex} {ka kb : Nat} (h : isT 4 [40] l = true) (h1 : E 0 l.tail (.ok a ka m)) (t1 : isT 4 [44] m = true) (h2 : E 0 m.tail (.ok b kb m2)) (t2 : isT 4 [41] m2 = true) :
  Q q l (.ok (.mk q 0 [] [a, b]) 8 m2.tail) := by
 obtain ⟨n1, e1⟩ := h1
 obtain ⟨n2, e2⟩ := h2
 refine ⟨max n1 n2 + 1, ?_⟩
 unfold pair
 simp only [must, h, if_true]
 rw [ex_le (by omega) e1]
 simp only [Option.bind_some, Out.thn, t1, if_true]
 rw [ex_le (by omega) e2]
 simp only [Option.bind_some, Out.thn, t2, if_true]
/-! ### Ranks -/
theorem inf_cases (k : Int) (x : List UInt8) : inf k x = 0 ∨ (inf k x ∈ infs ∧ sgn (inf k x) = some (k, x)) := by
 unfold inf
 cases h : infs.find? (fun o => sgn o == some (k, x)) with
 | none => exact Or.inl rfl
 | some o =>
  refine Or.inr ⟨List.mem_of_find?_eq_some h, ?_⟩
  have := List.find?_some h
  simpa using this
theorem infL_cases (l : List Tok) : infL l = 0 ∨ (infL l ∈ infs ∧ ∃ t m, l = t :: m ∧ sgn (infL l) = some (t.1, t.2.2)) := by
 cases l with
 | nil => exact Or.inl rfl
 | cons t m =>
  rcases inf_cases t.1 t.2.2 with h | ⟨h, h'⟩
  ·exact Or.inl h
  ·exact Or.inr ⟨h, t, m, rfl, h'⟩
theorem inf_ranks {o : Int} (h : o ∈ infs) : 1 ≤ rk o ∧ rk o ≤ 6 ∧ rk o ≠ 3 ∧ rk o ≤ lr o ∧ lr o ≤ 6 ∧ (rk o = 4 → lr o = 5) ∧ (rk o ≠ 4 → lr o = rk o) ∧ o ≠ 0 := by
 simp only [infs, List.mem_cons, List.not_mem_nil, or_false] at h
 rcases h with rfl | rfl | rfl | rfl | rfl | rfl | rfl | rfl | rfl | rfl <;> decide
theorem infL_ranks {l : List Tok} (h : infL l ≠ 0) : 1 ≤ rk (infL l) ∧ rk (infL l) ≤ 6 ∧ rk (infL l) ≠ 3 ∧ rk (infL l) ≤ lr (infL l) ∧ lr (infL l) ≤ 6 ∧ (rk (infL l) = 4 → lr (infL l) = 5) ∧ (rk (infL l) ≠ 4 → lr (infL l) = rk (infL l)) := by
 rcases infL_cases l with h0 | ⟨h1, _⟩
 ·exact absurd h0 h
 ·obtain ⟨a, b, c, d, e, f, g, _⟩ := inf_ranks h1
  exact ⟨a, b, c, d, e, f, g⟩
/-! ### Rank by rank: the document's grammar -/
theorem stop_eq (r r' k : Nat) (l : List Tok) (h : infL l ≠ 0 → (rk (infL l) < r ↔ rk (infL l) < r')) : stop r k l ↔ stop r' k l := by
 unfold stop
 by_cases c : infL l = 0
 ·simp [c]
 ·rw [h c]
theorem lp_eq (r r' : Nat) (h : ∀ l, infL l ≠ 0 → (rk (infL l) < r ↔ rk (infL l) < r')) : ∀ (n : Nat) (e : Ex) (k : Nat) (l : List Tok), lp n r e k l = lp n r' e k l := by
 intro n
 induction n with
 | zero => intro e k l; simp [lp]
 | succ n ih =>
  intro e k l
  have hs := stop_eq r r' k l (h l)
  unfold stop at hs
  unfold lp
  by_cases c : infL l = 0 ∨ rk (infL l) < r ∨ k < lr (infL l)
  ·rw [if_pos c, if_pos (hs.1 c)]
  ·rw [if_neg c, if_neg (fun x => c (hs.2 x))]
   congr 1
   congr 1
   funext b _ m
   exact ih _ _ _
theorem fi_eq (r r' : Nat) (l : List Tok) (h0 : (r = 0 ∧ isT 5 wIf l = true) ↔ (r' = 0 ∧ isT 5 wIf l = true)) (h3 : (r ≤ 3 ∧ isT 5 wNot l = true) ↔ (r' ≤ 3 ∧ isT 5 wNot l = true))
  (hr : (r = 0 ∧ isT 5 wIf l = true) → r = r') (n : Nat) : fi n r l = fi n r' l := by
 cases n with
 | zero => simp [fi]
 | succ n =>
  unfold fi
  by_cases c : r = 0 ∧ isT 5 wIf l = true
  ·rw [hr c]
  ·rw [if_neg c, if_neg (fun x => c (h0.2 x))]
   by_cases c2 : r ≤ 3 ∧ isT 5 wNot l = true
   ·rw [if_pos c2, if_pos (h3.1 c2)]
   ·rw [if_neg c2, if_neg (fun x => c2 (h3.2 x))]
theorem E.same {r r' : Nat} {l : List Tok} {o : Out} (hf : ∀ n, fi n r l = fi n r' l) (hl : ∀ l, infL l ≠ 0 → (rk (infL l) < r ↔ rk (infL l) < r')) (h : E r' l o) : E r l o := by
 obtain ⟨n, hn⟩ := h
 refine ⟨n, ?_⟩
 cases n with
 | zero => simp [ex] at hn
 | succ n =>
  unfold ex at hn ⊢
  rw [hf, ← hn]
  congr 1
  congr 1
  funext e k m
  exact lp_eq r r' hl n e k m
theorem E.cond {l m : List Tok} {e : Ex} (h : F 0 l (.ok e 0 m)) : E 0 l (.ok e 0 m) := by
 refine E.go h (L.stop ?_)
 by_cases c : infL m = 0
 ·exact Or.inl c
 ·have := infL_ranks c
  exact Or.inr (Or.inr (by omega))
theorem E.zero {l : List Tok} {o : Out} (h0 : isT 5 wIf l = false) (h : E 1 l o) : E 0 l o := by
 refine E.same (fi_eq 0 1 l (by simp [h0]) (by simp) (by simp [h0])) (fun l c => ?_) h
 have := infL_ranks c
 omega
theorem E.not {l m : List Tok} {e : Ex} (h : F 3 l (.ok e 3 m)) : E 3 l (.ok e 3 m) := by
 refine E.go h (L.stop ?_)
 by_cases c : infL m = 0
 ·exact Or.inl c
 ·have := infL_ranks c
  by_cases c4 : rk (infL m) = 4
  ·exact Or.inr (Or.inr (by omega))
  ·by_cases c3 : rk (infL m) < 3
   ·exact Or.inr (Or.inl c3)
   ·exact Or.inr (Or.inr (by omega))
def J (r : Nat) (l : List Tok) (x : Ex) (k : Nat) (m : List Tok) : Prop :=
 (∀ o, L r x k m o → E r l o) ∧ (infL m ≠ 0 → r < rk (infL m) → k < lr (infL m)) ∧ r ≤ k ∧ (r = 4 → 5 ≤ k)
def bin (r : Nat) (m : List Tok) : Int := if infL m ≠ 0 ∧ rk (infL m) = r then infL m else 0
theorem J.goes {r : Nat} {l m : List Tok} {x : Ex} {k : Nat} (h : J r l x k m) (h0 : bin r m ≠ 0) : bin r m = infL m ∧ rk (infL m) = r ∧ ¬ Go.Proofs.YthanoilbcdhbkaaGreatDoor.EM.stop r k m := by
 unfold bin at h0 ⊢
 by_cases c : infL m ≠ 0 ∧ rk (infL m) = r
 ·rw [if_pos c] at h0 ⊢
  refine ⟨rfl, c.2, fun x => ?_⟩
  have := infL_ranks c.1
  have := h.2.2
  rcases x with x | x | x
  ·exact h0 x
  ·omega
  ·by_cases c4 : r = 4 <;> omega
 ·rw [if_neg c] at h0; exact absurd rfl h0
theorem J.more {r : Nat} {l m m2 : List Tok} {x b : Ex} {k kb : Nat} (h : J r l x k m) (h0 : bin r m ≠ 0) (hr : r ≠ 4) (h1 : E (r + 1) m.tail (.ok b kb m2)) : J r l (.mk (bin r m) 0 [] [x, b]) r m2 := by
 obtain ⟨e1, e2, e3⟩ := h.goes h0
 rw [e1]
 refine ⟨fun o ho => h.1 o (L.go e3 (by rw [e2]; exact h1) (by rw [e2]; exact ho)), fun c1 c2 => ?_, Nat.le_refl _, fun c => absurd c hr⟩
 have := infL_ranks c1
 omega
/-! ### Trees -/
def Ex.op : Ex → Int
 | .mk o _ _ _ => o
def Ex.n : Ex → Int
 | .mk _ n _ _ => n
def Ex.s : Ex → List UInt8
 | .mk _ _ s _ => s
def Ex.args : Ex → List Ex
 | .mk _ _ _ a => a
mutual
def pre : Ex → List Ex
 | .mk o n s a => .mk o n s a :: pres a
def pres : List Ex → List Ex
 | [] => []
 | e :: l => pre e ++ pres l
end
mutual
def dep : Ex → Nat
 | .mk _ _ _ a => deps a + 1
def deps : List Ex → Nat
 | [] => 0
 | e :: l => max (dep e) (deps l)
end
def siz (e : Ex) : Nat := (pre e).length
def sizs (l : List Ex) : Nat := (pres l).length
theorem siz_mk (o n : Int) (s : List UInt8) (a : List Ex) : siz (.mk o n s a) = sizs a + 1 := by simp [siz, sizs, pre]
theorem sizs_cons (e : Ex) (l : List Ex) : sizs (e :: l) = siz e + sizs l := by simp [siz, sizs, pres]
theorem sizs_nil : sizs [] = 0 := rfl
theorem siz_pos (e : Ex) : 1 ≤ siz e := by cases e; rw [siz_mk]; omega
theorem sizs_len (l : List Ex) : l.length ≤ sizs l := by
 induction l with
 | nil => simp
 | cons e l ih => rw [sizs_cons, List.length_cons]; have := siz_pos e; omega
theorem pres_app (l m : List Ex) : pres (l ++ m) = pres l ++ pres m := by
 induction l with
 | nil => rfl
 | cons e l ih => simp [pres, ih]
theorem sizs_app (l m : List Ex) : sizs (l ++ m) = sizs l + sizs m := by simp [sizs, pres_app]
theorem siz_mem {e : Ex} {l : List Ex} (h : e ∈ l) : siz e ≤ sizs l := by
 induction l with
 | nil => cases h
 | cons x l ih =>
  rw [sizs_cons]
  rcases List.mem_cons.1 h with rfl | h
  ·omega
  ·have := ih h; omega
theorem pre_mem {e x : Ex} {l : List Ex} (h : e ∈ l) (hx : x ∈ pre e) : x ∈ pres l := by
 induction l with
 | nil => cases h
 | cons y l ih =>
  rw [pres, List.mem_append]
  rcases List.mem_cons.1 h with rfl | h
  ·exact Or.inl hx
  ·exact Or.inr (ih h)
def opn (o : Int) : Int := if o < 1 ∨ 19 < o then -1 else if o ≤ 4 then 0 else if o = 9 ∨ o = 16 then 1 else if o = 19 then 3 else 2
def most (o : Int) : Int := if o = 1 then 9223372036854775807 else if o = 2 then 1000000000000 else if o = 3 then 1000000 else 0
def fmd : Ex → Bool
 | .mk o n s a => decide ((a.length : Int) = opn o) && (decide (0 ≤ n) && (decide (n ≤ most o) && (decide (o = 4) || s.isEmpty)))
def right (e : Ex) : Bool := (pre e).all fmd
def tk (k : Int) (x : List UInt8) : Tok := (k, 1, x)
def word (o : Int) : Int × List UInt8 :=
 if o = 9 then (4, [45]) else if o = 16 then (5, wNot) else if o = 17 then (5, wMin) else if o = 18 then (5, wMax) else if o = 19 then (5, wIf) else (sgn o).getD (4, [60, 61])
def leaf (o n : Int) (s : List UInt8) : List Tok :=
 if o = 1 then [tk 2 (nT n)] else if o = 2 then [tk 4 [36], tk 2 (nT n)] else if o = 3 then [tk 3 (qT n)] else [tk 1 s]
def par (b : Bool) (l : List Tok) : List Tok := if b then tk 4 [40] :: (l ++ [tk 4 [41]]) else l
def body : Ex → List Tok
 | .mk o n s [] => leaf o n s
 | .mk o _ _ [a] => tk (word o).1 (word o).2 :: par (decide (rk a.op < rk o)) (body a)
 | .mk o _ _ [a, b] =>
  if rk o = 8 then tk (word o).1 (word o).2 :: tk 4 [40] :: (body a ++ tk 4 [44] :: (body b ++ [tk 4 [41]]))
  else par (decide (rk a.op < lr o)) (body a) ++ tk (word o).1 (word o).2 :: par (decide (rk b.op < rk o + 1)) (body b)
 | .mk _ _ _ [a, b, c] => tk 5 wIf :: (body a ++ tk 5 wThen :: (body b ++ tk 5 wElse :: body c))
 | .mk _ _ _ (_ :: _ :: _ :: _ :: _) => []
def wr (r : Nat) (e : Ex) : List Tok := par (decide (rk e.op < r)) (body e)
theorem wr_zero (e : Ex) : wr 0 e = body e := by simp [wr, par]
def pk (r : Nat) (e : Ex) : Nat := if rk e.op < r then 8 else rk e.op
theorem pk_ge (r : Nat) (e : Ex) (h : r ≤ 8) : r ≤ pk r e := by unfold pk; split <;> omega

section

theorem fmd_parts {o n : Int} {s : List UInt8} {a : List Ex} (h : fmd (.mk o n s a) = true) : (a.length : Int) = opn o ∧ 0 ≤ n ∧ n ≤ most o ∧ (o = 4 ∨ s = []) := by
 simp only [fmd, Bool.and_eq_true, Bool.or_eq_true, decide_eq_true_eq, List.isEmpty_iff] at h
 exact ⟨h.1, h.2.1, h.2.2.1, h.2.2.2⟩
theorem right_parts {o n : Int} {s : List UInt8} {a : List Ex} (h : right (.mk o n s a) = true) : fmd (.mk o n s a) = true ∧ ∀ e ∈ a, right e = true := by
 simp only [right, pre, List.all_cons, Bool.and_eq_true] at h
 refine ⟨h.1, fun e he => ?_⟩
 rw [right, List.all_eq_true]
 intro x hx
 exact List.all_eq_true.1 h.2 x (pre_mem he hx)
theorem opn_range {o : Int} (h : 0 ≤ opn o) : 1 ≤ o ∧ o ≤ 19 := by
 unfold opn at h
 split at h
 ·omega
 ·omega
theorem opn_zero {o : Int} (h : opn o = 0) : o = 1 ∨ o = 2 ∨ o = 3 ∨ o = 4 := by
 have := opn_range (o := o) (by omega)
 unfold opn at h
 repeat' split at h
 all_goals omega
theorem opn_one {o : Int} (h : opn o = 1) : o = 9 ∨ o = 16 := by
 unfold opn at h
 repeat' split at h
 all_goals omega
theorem opn_three {o : Int} (h : opn o = 3) : o = 19 := by
 unfold opn at h
 repeat' split at h
 all_goals omega
theorem opn_two {o : Int} (h : opn o = 2) : o ∈ infs ∨ o = 17 ∨ o = 18 := by
 have := opn_range (o := o) (by omega)
 unfold opn at h
 simp only [infs, List.mem_cons, List.not_mem_nil, or_false]
 repeat' split at h
 all_goals omega
theorem opn_le (o : Int) : opn o ≤ 3 := by
 unfold opn
 repeat' split
 all_goals omega
theorem inf_word {o : Int} (h : o ∈ infs) : inf (word o).1 (word o).2 = o := by
 simp only [infs, List.mem_cons, List.not_mem_nil, or_false] at h
 rcases h with rfl | rfl | rfl | rfl | rfl | rfl | rfl | rfl | rfl | rfl <;> decide
theorem infL_word {o : Int} (h : o ∈ infs) (m : List Tok) : infL (tk (word o).1 (word o).2 :: m) = o := by
 have := inf_word h
 exact this
theorem reads : ∀ (N : Nat) (e : Ex), siz e ≤ N → right e = true → ∀ (r r' : Nat) (t : List Tok), r ≤ r' → r' ≤ 7 → (infL t ≠ 0 → lr (infL t) ≤ pk r' e) → ∀ o, L r e (pk r' e) t o → E r (wr r' e ++ t) o := by
 intro N
 induction N with
 | zero => intro e he; have := siz_pos e; omega
 | succ N ih =>
  intro e he hr
  -- it is enough without parentheses
  have key : ∀ (r r' : Nat) (t : List Tok), r ≤ r' → r' ≤ rk e.op → r' ≤ 7 → (infL t ≠ 0 → lr (infL t) ≤ rk e.op) → ∀ o, L r e (rk e.op) t o → E r (body e ++ t) o := by
   obtain ⟨op, n, s, a⟩ := e
   obtain ⟨hf, hra⟩ := right_parts hr
   obtain ⟨h1, h2, h3, h4⟩ := fmd_parts hf
   rw [siz_mk] at he
   intro r r' t hrr hrk h7 hi o ho
   simp only [Ex.op] at hrk hi ho
   match a, h1, hra, he, ho with
   | [], h1, hra, he, ho =>
    have h1 : opn op = 0 := by simpa using h1.symm
    rcases opn_zero h1 with rfl | rfl | rfl | rfl
    ·obtain ⟨e1, e2⟩ := nT_reads n h2 (by simpa [most] using h3)
     obtain rfl : s = [] := by rcases h4 with h4 | h4; exact absurd h4 (by decide); exact h4
     refine E.go (F.pr (by simp [body, leaf, isT, tk, wIf]) (by simp [body, leaf, isT, tk, wNot]) (by simp [body, leaf, isT, tk]) (P.single (by simp [body, leaf, isT, tk]) (by simp [body, leaf, isT, tk]) (by simp [body, leaf, isT, tk, wMin]) (by simp [body, leaf, isT, tk, wMax]) (o := .ok (.mk 1 n [] []) 8 t) ?_)) ho
     simp [body, leaf, tk, single, numb, e1, e2]
    ·obtain ⟨e1, e2⟩ := nT_reads n h2 (by simp [most] at h3; omega)
     obtain rfl : s = [] := by rcases h4 with h4 | h4; exact absurd h4 (by decide); exact h4
     refine E.go (F.pr (by simp [body, leaf, isT, tk, wIf]) (by simp [body, leaf, isT, tk, wNot]) (by simp [body, leaf, isT, tk]) (P.cash (by simp [body, leaf, isT, tk]) (o := .ok (.mk 2 n [] []) 8 t) ?_)) ho
     simp [body, leaf, tk, numb, e1, e2]
    ·obtain ⟨e1, e2⟩ := qT_reads n h2 (by simpa [most] using h3)
     obtain rfl : s = [] := by rcases h4 with h4 | h4; exact absurd h4 (by decide); exact h4
     refine E.go (F.pr (by simp [body, leaf, isT, tk, wIf]) (by simp [body, leaf, isT, tk, wNot]) (by simp [body, leaf, isT, tk]) (P.single (by simp [body, leaf, isT, tk]) (by simp [body, leaf, isT, tk]) (by simp [body, leaf, isT, tk, wMin]) (by simp [body, leaf, isT, tk, wMax]) (o := .ok (.mk 3 n [] []) 8 t) ?_)) ho
     simp [body, leaf, tk, single, e1, e2]
    ·have h3 : n ≤ 0 := by simpa [most] using h3
     obtain rfl : n = 0 := by omega
     refine E.go (F.pr (by simp [body, leaf, isT, tk, wIf]) (by simp [body, leaf, isT, tk, wNot]) (by simp [body, leaf, isT, tk]) (P.single (by simp [body, leaf, isT, tk]) (by simp [body, leaf, isT, tk]) (by simp [body, leaf, isT, tk, wMin]) (by simp [body, leaf, isT, tk, wMax]) (o := .ok (.mk 4 0 s []) 8 t) ?_)) ho
     simp [body, leaf, tk, single]
   | [a], h1, hra, he, ho =>
    have h1 : opn op = 1 := by simpa using h1.symm
    rw [sizs_cons, sizs_nil] at he
    have ha := hra a (by simp)
    rcases opn_one h1 with rfl | rfl
    ·obtain rfl : s = [] := by rcases h4 with h4 | h4; exact absurd h4 (by decide); exact h4
     have h3 : n ≤ 0 := by simpa [most] using h3
     obtain rfl : n = 0 := by omega
     refine E.go (F.neg (by simp [body, isT, tk, word]) (ih a (by omega) ha 7 7 t (by omega) (by omega) (fun c => ?_) _ (L.stop ?_))) ho
     ·have := infL_ranks c; have := pk_ge 7 a (by omega); omega
     ·by_cases c : infL t = 0
      ·exact Or.inl c
      ·have := infL_ranks c; exact Or.inr (Or.inl (by omega))
    ·obtain rfl : s = [] := by rcases h4 with h4 | h4; exact absurd h4 (by decide); exact h4
     have h3 : n ≤ 0 := by simpa [most] using h3
     obtain rfl : n = 0 := by omega
     have e3 : rk 16 = 3 := by decide
     rw [e3] at hi hrk ho
     refine E.go (F.not (by omega) (by simp [body, isT, tk, word]) (ih a (by omega) ha 3 3 t (by omega) (by omega) (fun c => ?_) _ (L.stop ?_))) ho
     ·have := hi c; have := pk_ge 3 a (by omega); omega
     ·by_cases c : infL t = 0
      ·exact Or.inl c
      ·have := infL_ranks c; have := hi c; exact Or.inr (Or.inl (by omega))
   | [a, b], h1, hra, he, ho =>
    have h1 : opn op = 2 := by simpa using h1.symm
    rw [sizs_cons, sizs_cons, sizs_nil] at he
    have ha := hra a (by simp)
    have hb := hra b (by simp)
    have hb0 := siz_pos b
    have ha0 := siz_pos a
    rcases opn_two h1 with hop | hop
    ·obtain ⟨k1, k2, k3, k4, k5, k6, k7, k0⟩ := inf_ranks hop
     obtain rfl : s = [] := by
      rcases h4 with h4 | h4
      ·subst h4; exact absurd h1 (by decide)
      ·exact h4
     have h3 : n ≤ 0 := by
      have : most op = 0 := by
       unfold most
       rw [if_neg (fun c => by subst c; exact absurd h1 (by decide)), if_neg (fun c => by subst c; exact absurd h1 (by decide)), if_neg (fun c => by subst c; exact absurd h1 (by decide))]
      omega
     obtain rfl : n = 0 := by omega
     have hbody : body (.mk op 0 [] [a, b]) ++ t = wr (lr op) a ++ (tk (word op).1 (word op).2 :: (wr (rk op + 1) b ++ t)) := by
      rw [body, if_neg (by omega)]
      simp [wr]
     rw [hbody]
     have hil := infL_word hop (wr (rk op + 1) b ++ t)
     have hpa := pk_ge (lr op) a (by omega)
     have hpb := pk_ge (rk op + 1) b (by omega)
     refine ih a (by omega) ha r (lr op) _ (by omega) (by omega) (fun _ => by rw [hil]; exact hpa) o (L.go (fun c => ?_) (b := b) (kb := pk (rk op + 1) b) (m := t) ?_ ?_)
     ·rw [Go.Proofs.YthanoilbcdhbkaaGreatDoor.EM.stop, hil] at c
      rcases c with c | c | c <;> omega
     ·rw [hil]
      show E (rk op + 1) (wr (rk op + 1) b ++ t) _
      refine ih b (by omega) hb (rk op + 1) (rk op + 1) t (by omega) (by omega) (fun c => by have := hi c; omega) _ (L.stop ?_)
      by_cases c : infL t = 0
      ·exact Or.inl c
      ·have := infL_ranks c; have := hi c; exact Or.inr (Or.inl (by omega))
     ·rw [hil]; exact ho
    ·have h8 : rk op = 8 := by rcases hop with rfl | rfl <;> decide
     have hbody : body (.mk op n s [a, b]) ++ t = tk (word op).1 (word op).2 :: (tk 4 [40] :: (wr 0 a ++ (tk 4 [44] :: (wr 0 b ++ (tk 4 [41] :: t))))) := by
      rw [body, if_pos h8, wr_zero, wr_zero]
      simp
     rw [hbody]
     obtain rfl : s = [] := by
      rcases h4 with h4 | h4
      ·subst h4; exact absurd h1 (by decide)
      ·exact h4
     have h3 : n ≤ 0 := by
      have : most op = 0 := by rcases hop with rfl | rfl <;> rfl
      omega
     obtain rfl : n = 0 := by omega
     have q1 : E 0 (wr 0 a ++ (tk 4 [44] :: (wr 0 b ++ (tk 4 [41] :: t)))) (.ok a (pk 0 a) (tk 4 [44] :: (wr 0 b ++ (tk 4 [41] :: t)))) :=
      ih a (by omega) ha 0 0 _ (by omega) (by omega) (fun c => absurd rfl c) _ (L.stop (Or.inl rfl))
     have q2 : E 0 (wr 0 b ++ (tk 4 [41] :: t)) (.ok b (pk 0 b) (tk 4 [41] :: t)) :=
      ih b (by omega) hb 0 0 _ (by omega) (by omega) (fun c => absurd rfl c) _ (L.stop (Or.inl rfl))
     have Q1 := Q.go (q := op) (l := tk 4 [40] :: (wr 0 a ++ (tk 4 [44] :: (wr 0 b ++ (tk 4 [41] :: t))))) (by simp [isT, tk]) q1 (by simp [isT, tk]) q2 (by simp [isT, tk])
     rw [h8] at ho
     rcases hop with rfl | rfl
     ·exact E.go (F.pr (by simp [isT, tk, word, wIf, wMin]) (by simp [isT, tk, word, wNot, wMin]) (by simp [isT, tk, word]) (P.min (by simp [isT, tk, word]) Q1)) ho
     ·exact E.go (F.pr (by simp [isT, tk, word, wIf, wMax]) (by simp [isT, tk, word, wNot, wMax]) (by simp [isT, tk, word]) (P.max (by simp [isT, tk, word]) Q1)) ho
   | [a, b, c], h1, hra, he, ho =>
    have h1 : opn op = 3 := by simpa using h1.symm
    rw [sizs_cons, sizs_cons, sizs_cons, sizs_nil] at he
    have ha := hra a (by simp)
    have hb := hra b (by simp)
    have hc := hra c (by simp)
    have hb0 := siz_pos b
    have ha0 := siz_pos a
    have hc0 := siz_pos c
    obtain rfl := opn_three h1
    obtain rfl : s = [] := by rcases h4 with h4 | h4; exact absurd h4 (by decide); exact h4
    have h3 : n ≤ 0 := by simpa [most] using h3
    obtain rfl : n = 0 := by omega
    have e3 : rk 19 = 0 := by decide
    rw [e3] at hi hrk ho
    obtain rfl : r = 0 := by omega
    have hbody : body (.mk 19 0 [] [a, b, c]) ++ t = tk 5 wIf :: (wr 0 a ++ (tk 5 wThen :: (wr 0 b ++ (tk 5 wElse :: (wr 0 c ++ t))))) := by
     rw [body, wr_zero, wr_zero, wr_zero]
     simp
    rw [hbody]
    have ht : infL t = 0 := by
     by_cases c : infL t = 0
     ·exact c
     ·have := infL_ranks c; have := hi c; omega
    refine E.go (F.cond (by simp [isT, tk]) (ih a (by omega) ha 0 0 (tk 5 wThen :: (wr 0 b ++ (tk 5 wElse :: (wr 0 c ++ t)))) (by omega) (by omega) (fun c => absurd rfl c) _ (L.stop (Or.inl rfl))) (by simp [isT, tk])
     (ih b (by omega) hb 0 0 (tk 5 wElse :: (wr 0 c ++ t)) (by omega) (by omega) (fun c => absurd rfl c) _ (L.stop (Or.inl rfl))) (by simp [isT, tk])
     (ih c (by omega) hc 0 0 t (by omega) (by omega) (fun c => absurd ht c) _ (L.stop (Or.inl ht)))) ho
   | _ :: _ :: _ :: _ :: _, h1, hra, he, ho =>
    have := opn_le op
    simp at h1
    omega
  intro r r' t hrr h7 hi o ho
  by_cases hp : rk e.op < r'
  ·have hpk : pk r' e = 8 := by unfold pk; rw [if_pos hp]
   rw [hpk] at ho
   have hw : wr r' e ++ t = tk 4 [40] :: (body e ++ (tk 4 [41] :: t)) := by
    unfold wr par
    rw [if_pos (by simpa using hp)]
    simp
   rw [hw]
   exact E.go (F.pr (by simp [isT, tk, wIf]) (by simp [isT, tk, wNot]) (by simp [isT, tk]) (P.par (by simp [isT, tk]) (key 0 0 (tk 4 [41] :: t) (by omega) (by omega) (by omega) (fun c => absurd rfl c) _ (L.stop (Or.inl rfl))) (by simp [isT, tk]))) ho
  ·have hpk : pk r' e = rk e.op := by unfold pk; rw [if_neg hp]
   rw [hpk] at hi ho
   have hw : wr r' e = body e := by
    unfold wr par
    rw [if_neg (by simpa using hp)]
   rw [hw]
   exact key r r' t hrr (by omega) h7 hi o ho
end

/-! ### No parentheses can be left out -/
section
end
end Go.Proofs.YthanoilbcdhbkaaGreatDoor.EM
