/-
  Merged: Types of expressions, plain: the type of an operator, of an expression; variables; what replacing and reordering variables keeps. Compiled expressions, plain: the instructions, the types along code; what is compiled is valid code; different expressions have different code. Code, plain: the types along code; what is compiled is valid code. Code, plain: the forms of the instructions of valid code; the text of code; code that jumps back is not valid; the chapter's example.
-/
import Derived.Test.YthanoilbcdhbkaaGreatDoorQEV
namespace Go.Proofs.YthanoilbcdhbkaaGreatDoor.YM
open Go Go.Lib WM TM EM
def good (t : Int) : Bool := decide (1 ≤ t) && decide (t ≤ 5)
def scal (t : Int) : Bool := decide (1 ≤ t) && decide (t ≤ 3)
def iff' (t : Int) (b : Bool) : Option Int := if b then some t else none
def prodO (a b : Int) : Option Int :=
  if scal a = false ∨ scal b = false then none else if a = 1 then some b else if b = 1 then some a else iff' 2 (decide (a ≠ b))
def twoO (o a b : Int) : Option Int :=
  if o = 5 then (if a = 4 then iff' a (decide (b = 1)) else iff' a (decide (a = b) && scal a))
  else if o = 6 then (if a = 4 ∧ b = 4 then some 1 else if a = 4 then iff' a (decide (b = 1)) else iff' a (decide (a = b) && scal a))
  else if o = 7 then prodO a b
  else if o = 8 then (if a = 2 ∧ b = 2 then some 1 else iff' a (scal a && decide (b = 1)))
  else if o = 10 ∨ o = 11 then iff' 5 (decide (a = b))
  else if o = 12 ∨ o = 13 then iff' 5 (decide (a = b) && decide (a ≠ 5))
  else if o = 14 ∨ o = 15 then iff' 5 (decide (a = 5) && decide (b = 5))
  else if o = 17 ∨ o = 18 then iff' a (decide (a = b) && decide (a ≠ 5))
  else none
def rawO (o : Int) : List Int → Option Int
  | [a] => if o = 9 then iff' a (scal a) else if o = 16 then iff' 5 (decide (a = 5)) else none
  | [a, b] => twoO o a b
  | [a, b, c] => if o = 19 then iff' b (decide (a = 5) && decide (b = c)) else none
  | _ => none
def resO (o : Int) (l : List Int) : Option Int := if l.all good then rawO o l else none

abbrev Vr := List UInt8 × Int
def look (vs : List Vr) (s : List UInt8) : Int × Int :=
  match vs.find? (fun v => decide (v.1 = s)) with
  | none => (0, 4)
  | some v => if good v.2 then (v.2, 0) else (0, 3)
def opT (o : Int) (l : List Int) : Int × Int :=
  match resO o l with
  | none => (0, 3)
  | some t => (t, 0)
mutual
def ty (vs : List Vr) : Ex → Int × Int
  | .mk o _ s a =>
    if o = 1 then (1, 0) else if o = 2 then (2, 0) else if o = 3 then (3, 0) else if o = 4 then look vs s
    else if (tys vs a).2 = 0 then opT o (tys vs a).1 else (0, (tys vs a).2)
def tys (vs : List Vr) : List Ex → List Int × Int
  | [] => ([], 0)
  | e :: l => if (ty vs e).2 = 0 then ((ty vs e).1 :: (tys vs l).1, (tys vs l).2) else ([], (ty vs e).2)
end
def ofT (e : Ex) (vs : List Vr) : Int × Int := if vE e = 0 then ty vs e else (0, vE e)
theorem ty_mk (vs : List Vr) (e : Ex) : ty vs e = if e.op = 1 then (1, 0) else if e.op = 2 then (2, 0) else if e.op = 3 then (3, 0) else if e.op = 4 then look vs e.s
    else if (tys vs e.args).2 = 0 then opT e.op (tys vs e.args).1 else (0, (tys vs e.args).2) := by cases e; rfl
theorem tys_app (vs : List Vr) (l m : List Ex) : tys vs (l ++ m) = if (tys vs l).2 = 0 then ((tys vs l).1 ++ (tys vs m).1, (tys vs m).2) else tys vs l := by
  induction l with
  | nil => simp [tys]
  | cons e l ih =>
    rw [List.cons_append, tys, tys, ih]
    by_cases h : (ty vs e).2 = 0
    · simp only [if_pos h]
      by_cases h2 : (tys vs l).2 = 0
      · simp [if_pos h2]
      · simp [if_neg h2]
    · simp only [if_neg h]
theorem tys_one (vs : List Vr) (e : Ex) : tys vs [e] = if (ty vs e).2 = 0 then ([(ty vs e).1], 0) else ([], (ty vs e).2) := by simp [tys]
theorem tys_take (vs : List Vr) (l : List Ex) (k : Nat) (h : k < l.length) (h0 : (tys vs (l.take k)).2 = 0) :
    tys vs (l.take (k + 1)) = if (ty vs (l.getD k E0)).2 = 0 then ((tys vs (l.take k)).1 ++ [(ty vs (l.getD k E0)).1], 0) else ((tys vs (l.take k)).1, (ty vs (l.getD k E0)).2) := by
  rw [take_gx E0 l k h, tys_app, if_pos h0, tys_one]
  split <;> simp
theorem tys_bad (vs : List Vr) (l : List Ex) (k : Nat) (h0 : (tys vs (l.take k)).2 ≠ 0) : tys vs l = tys vs (l.take k) := by
  conv => lhs; rw [← List.take_append_drop k l]
  rw [tys_app, if_neg h0]
theorem good_iff {t : Int} : good t = true ↔ 1 ≤ t ∧ t ≤ 5 := by unfold good; simp
theorem scal_iff {t : Int} : scal t = true ↔ 1 ≤ t ∧ t ≤ 3 := by unfold scal; simp
theorem op_cases (e : Ex) : (e.op = 1 ∨ e.op = 2 ∨ e.op = 3) ∨ e.op = 4 ∨ ¬ (1 ≤ e.op ∧ e.op ≤ 4) := by omega
/-! ### Variables -/
def vsL : List Vr → List Vr → Int
  | _, [] => 0
  | p, v :: l => if varOk v.1 = false then 4 else if (p.map Prod.fst).contains v.1 then 12 else if good v.2 = false then 3 else vsL (p ++ [v]) l
def vsE (l : List Vr) : Int := if 64 < l.length then 5 else vsL [] l
theorem vsL_zero : ∀ (l p : List Vr), vsL p l = 0 ↔ ((∀ v ∈ l, varOk v.1 = true ∧ good v.2 = true) ∧ (∀ v ∈ l, v.1 ∉ p.map Prod.fst) ∧ (l.map Prod.fst).Nodup) := by
  intro l
  induction l with
  | nil => intro p; simp [vsL]
  | cons v l ih =>
    intro p
    rw [vsL]
    by_cases h1 : varOk v.1 = false
    · rw [if_pos h1]
      refine ⟨fun h => absurd h (by decide), fun h => ?_⟩
      have := (h.1 v (by simp)).1
      rw [h1] at this; cases this
    · rw [if_neg h1]
      by_cases h2 : (p.map Prod.fst).contains v.1 = true
      · rw [if_pos h2]
        refine ⟨fun h => absurd h (by decide), fun h => ?_⟩
        exact absurd (List.contains_iff_mem.1 h2) (h.2.1 v (by simp))
      · rw [if_neg h2]
        by_cases h3 : good v.2 = false
        · rw [if_pos h3]
          refine ⟨fun h => absurd h (by decide), fun h => ?_⟩
          have := (h.1 v (by simp)).2
          rw [h3] at this; cases this
        · rw [if_neg h3, ih]
          have h1' : varOk v.1 = true := by cases h : varOk v.1 <;> simp_all
          have h3' : good v.2 = true := by cases h : good v.2 <;> simp_all
          have h2' : v.1 ∉ p.map Prod.fst := fun h => h2 (List.contains_iff_mem.2 h)
          constructor
          · rintro ⟨a, b, c⟩
            refine ⟨?_, ?_, ?_⟩
            · intro x hx
              rcases List.mem_cons.1 hx with rfl | hx
              · exact ⟨h1', h3'⟩
              · exact a x hx
            · intro x hx
              rcases List.mem_cons.1 hx with rfl | hx
              · exact h2'
              · intro hp; exact b x hx (by rw [List.map_append]; exact List.mem_append_left _ hp)
            · rw [List.map_cons, List.nodup_cons]
              refine ⟨fun hm => ?_, c⟩
              obtain ⟨y, hy, e⟩ := List.mem_map.1 hm
              exact b y hy (by rw [e, List.map_append]; exact List.mem_append_right _ (by simp))
          · rintro ⟨a, b, c⟩
            rw [List.map_cons, List.nodup_cons] at c
            refine ⟨fun x hx => a x (List.mem_cons_of_mem _ hx), fun x hx hp => ?_, c.2⟩
            rw [List.map_append, List.mem_append] at hp
            rcases hp with hp | hp
            · exact b x (List.mem_cons_of_mem _ hx) hp
            · simp only [List.map_cons, List.map_nil, List.mem_singleton] at hp
              exact c.1 (hp ▸ List.mem_map_of_mem (f := Prod.fst) hx)
theorem vsE_zero (l : List Vr) : vsE l = 0 ↔ l.length ≤ 64 ∧ (∀ v ∈ l, varOk v.1 = true ∧ good v.2 = true) ∧ (l.map Prod.fst).Nodup := by
  unfold vsE
  by_cases h : 64 < l.length
  · rw [if_pos h]
    exact ⟨fun h => absurd h (by decide), fun h' => absurd h'.1 (by omega)⟩
  · rw [if_neg h, vsL_zero]
    exact ⟨fun a => ⟨by omega, a.1, a.2.2⟩, fun a => ⟨a.2.1, fun v _ => by simp, a.2.2⟩⟩
/-! ### Variables replaced by values -/
def put (vs : List Vr) (n : Int) (s : List UInt8) (e : Ex) : Ex :=
  match vs.find? (fun v => decide (v.1 = s)) with
  | none => e
  | some v => if v.2 = 1 then .mk 1 n [] [] else if v.2 = 2 then .mk 2 n [] [] else if v.2 = 3 then .mk 3 n [] [] else e
mutual
def fill (vs : List Vr) (n : Int) : Ex → Ex
  | .mk o m s a => if o = 4 then put vs n s (.mk o m s a) else .mk o m s (fills vs n a)
def fills (vs : List Vr) (n : Int) : List Ex → List Ex
  | [] => []
  | e :: l => fill vs n e :: fills vs n l
end
/-! ### Validity -/
theorem pres_all' (p : Ex → Bool) (l : List Ex) : (pres l).all p = l.all fun e => (EM.pre e).all p := by
  induction l with
  | nil => rfl
  | cons e l ih => rw [pres, List.all_append, ih]; rfl
theorem pre_all (p : Ex → Bool) (e : Ex) : (EM.pre e).all p = (p e && e.args.all fun x => (EM.pre x).all p) := by
  obtain ⟨o, n, s, a⟩ := e
  rw [EM.pre, List.all_cons, pres_all']
  rfl
def okN (e : Ex) : Bool := fmd e && nameB e
theorem vE_zero (e : Ex) : vE e = 0 ↔ dep e ≤ 8 ∧ siz e ≤ 64 ∧ (EM.pre e).all okN = true := by
  have hb : (EM.pre e).all okN = (right e && vnames e) := by
    unfold right vnames
    induction EM.pre e with
    | nil => rfl
    | cons x l ih =>
      rw [List.all_cons, List.all_cons, List.all_cons, ih]
      unfold okN
      cases fmd x <;> cases nameB x <;> cases l.all fmd <;> cases l.all nameB <;> rfl
  rw [hb]
  unfold vE
  by_cases h1 : dep e ≤ 8 ∧ siz e ≤ 64
  · rw [if_neg (by simpa using h1)]
    cases hr : right e <;> cases hv : vnames e <;> simp [h1]
  · rw [if_pos h1]
    exact ⟨fun h => absurd h (by decide), fun h => absurd ⟨h.1, h.2.1⟩ h1⟩
end Go.Proofs.YthanoilbcdhbkaaGreatDoor.YM

namespace Go.Proofs.YthanoilbcdhbkaaGreatDoor.YM
open Go Go.Lib WM TM EM
abbrev Ins := Int × Int × Int
def ixN (s : List UInt8) : List Vr → Nat
 | [] => 0
 | v :: l => if v.1 = s then 0 else ixN s l + 1
def ix (vs : List Vr) (s : List UInt8) : Int := if ixN s vs < vs.length then (ixN s vs : Int) else -1
mutual
def em (vs : List Vr) : Nat → Ex → List Ins
 | p, .mk o n s a =>
  if o = 1 ∨ o = 2 ∨ o = 3 then [(1, o, n)] else if o = 4 then [(2, ix vs s, 0)]
  else if o = 19 then ems vs 1 p a else ems vs 0 p a ++ [(3, o, 0)]
def ems (vs : List Vr) : Nat → Nat → List Ex → List Ins
 | _, _, [] => []
 | m, p, e :: l =>
  if m = 2 then (5, ((p + 1 + (em vs (p + 1) e).length + 1 : Nat) : Int), 0) :: (em vs (p + 1) e ++ ems vs 3 (p + 1 + (em vs (p + 1) e).length) l)
  else if m = 3 then (4, ((p + 1 + (em vs (p + 1) e).length : Nat) : Int), 0) :: (em vs (p + 1) e ++ ems vs 4 (p + 1 + (em vs (p + 1) e).length) l)
  else em vs p e ++ ems vs (if m = 1 then 2 else m) (p + (em vs p e).length) l
end
theorem em_mk (vs : List Vr) (p : Nat) (e : Ex) : em vs p e = if e.op = 1 ∨ e.op = 2 ∨ e.op = 3 then [(1, e.op, e.n)] else if e.op = 4 then [(2, ix vs e.s, 0)]
  else if e.op = 19 then ems vs 1 p e.args else ems vs 0 p e.args ++ [(3, e.op, 0)] := by cases e; rw [em]; rfl
theorem em_num (vs : List Vr) (p : Nat) {e : Ex} (h : e.op = 1 ∨ e.op = 2 ∨ e.op = 3) : em vs p e = [(1, e.op, e.n)] := by rw [em_mk, if_pos h]
theorem em_var (vs : List Vr) (p : Nat) {e : Ex} (h : e.op = 4) : em vs p e = [(2, ix vs e.s, 0)] := by rw [em_mk, if_neg (by omega), if_pos h]
theorem em_opr (vs : List Vr) (p : Nat) {e : Ex} (h : ¬ (1 ≤ e.op ∧ e.op ≤ 4)) (h2 : e.op ≠ 19) : em vs p e = ems vs 0 p e.args ++ [(3, e.op, 0)] := by
 rw [em_mk, if_neg (by omega), if_neg (by omega), if_neg h2]
theorem em_cond (vs : List Vr) (p : Nat) {e a b c : Ex} (h : e.op = 19) (ha : e.args = [a, b, c]) : em vs p e =
  em vs p a ++ (5, ((p + (em vs p a).length + 1 + (em vs (p + (em vs p a).length + 1) b).length + 1 : Nat) : Int), 0) :: (em vs (p + (em vs p a).length + 1) b ++
   (4, ((p + (em vs p a).length + 1 + (em vs (p + (em vs p a).length + 1) b).length + 1 + (em vs (p + (em vs p a).length + 1 + (em vs (p + (em vs p a).length + 1) b).length + 1) c).length : Nat) : Int), 0) ::
   em vs (p + (em vs p a).length + 1 + (em vs (p + (em vs p a).length + 1) b).length + 1) c) := by
 rw [em_mk, if_neg (by omega), if_neg (by omega), if_pos h, ha]
 simp [ems]
theorem ems_nil (vs : List Vr) (m p : Nat) : ems vs m p [] = [] := rfl
theorem ems_zero (vs : List Vr) (p : Nat) (e : Ex) (l : List Ex) : ems vs 0 p (e :: l) = em vs p e ++ ems vs 0 (p + (em vs p e).length) l := by simp [ems]
/-! ### Forms of valid expressions -/
theorem ok_parts {e : Ex} (h : (EM.pre e).all okN = true) : okN e = true ∧ ∀ x ∈ e.args, (EM.pre x).all okN = true := by
 rw [pre_all, Bool.and_eq_true, List.all_eq_true] at h
 exact h
theorem ok_len {e : Ex} (h : okN e = true) : (e.args.length : Int) = opn e.op ∧ 0 ≤ e.n ∧ e.n ≤ most e.op ∧ (e.op = 4 ∨ e.s = []) := by
 unfold okN at h
 rw [fmd_eq] at h
 simp only [Bool.and_eq_true, decide_eq_true_eq, Bool.or_eq_true, List.isEmpty_iff] at h
 exact ⟨h.1.1, h.1.2.1, h.1.2.2.1, h.1.2.2.2⟩
theorem ok_op {e : Ex} (h : okN e = true) : 1 ≤ e.op ∧ e.op ≤ 19 := by
 have h1 := (ok_len h).1
 unfold opn at h1
 by_cases c : e.op < 1 ∨ 19 < e.op
 ·rw [if_pos c] at h1; omega
 ·omega
theorem ok_leaf {e : Ex} (h : okN e = true) (h4 : e.op ≤ 4) : e.args = [] := by
 have h1 := (ok_len h).1
 have h2 := ok_op h
 unfold opn at h1
 rw [if_neg (by omega), if_pos h4] at h1
 exact List.eq_nil_of_length_eq_zero (by omega)
theorem ok_three {e : Ex} (h : okN e = true) (h19 : e.op = 19) : ∃ a b c, e.args = [a, b, c] := by
 have h1 := (ok_len h).1
 rw [h19] at h1
 have h2 : opn 19 = 3 := by decide
 rw [h2] at h1
 match ha : e.args with
 | [] => rw [ha] at h1; simp at h1
 | [_] => rw [ha] at h1; simp at h1
 | [_, _] => rw [ha] at h1; simp at h1
 | [a, b, c] => exact ⟨a, b, c, rfl⟩
 | _ :: _ :: _ :: _ :: l => rw [ha] at h1; simp at h1; omega
/-! ### Numbers of instructions -/
theorem em_len (vs : List Vr) : ∀ e, (EM.pre e).all okN = true → ∀ p, siz e ≤ (em vs p e).length ∧ (em vs p e).length ≤ 2 * siz e := by
 refine ex_ind _ fun e ih hk p => ?_
 obtain ⟨h1, h2⟩ := ok_parts hk
 have hz := siz_eq e
 have hs := siz_pos e
 rcases op_cases e with c | c | c
 ·rw [em_num vs p c, hz, ok_leaf h1 (by omega), sizs_nil]; simp
 ·rw [em_var vs p c, hz, ok_leaf h1 (by omega), sizs_nil]; simp
 ·by_cases h19 : e.op = 19
  ·obtain ⟨x, y, z, ha⟩ := ok_three h1 h19
   rw [em_cond vs p h19 ha, hz, ha, sizs_cons, sizs_cons, sizs_cons, sizs_nil]
   have k1 := ih x (by simp [ha]) (h2 x (by simp [ha])) p
   have k2 := ih y (by simp [ha]) (h2 y (by simp [ha])) (p + (em vs p x).length + 1)
   have k3 := ih z (by simp [ha]) (h2 z (by simp [ha])) (p + (em vs p x).length + 1 + (em vs (p + (em vs p x).length + 1) y).length + 1)
   simp only [List.length_append, List.length_cons]
   omega
  ·rw [em_opr vs p c h19, hz]
   have key : ∀ (l : List Ex) (p : Nat), (∀ x ∈ l, ∀ p, siz x ≤ (em vs p x).length ∧ (em vs p x).length ≤ 2 * siz x) → sizs l ≤ (ems vs 0 p l).length ∧ (ems vs 0 p l).length ≤ 2 * sizs l := by
    intro l
    induction l with
    | nil => intro p _; rw [ems_nil, sizs_nil]; simp
    | cons x l ihl =>
     intro p h
     rw [ems_zero, sizs_cons, List.length_append]
     have k1 := h x (by simp) p
     have k2 := ihl (p + (em vs p x).length) fun y hy => h y (by simp [hy])
     omega
   have := key e.args p fun x hx => ih x hx (h2 x hx)
   rw [List.length_append, List.length_singleton]
   omega

/-! ### The expression is found again -/
def one (vs : List Vr) (x : Ins) (st : List Ex) (cs : List Ex) (pd : List (Int × Ex × Ex)) : List Ex × List Ex × List (Int × Ex × Ex) :=
 if x.1 = 1 then (.mk x.2.1 x.2.2 [] [] :: st, cs, pd)
 else if x.1 = 2 then (.mk 4 0 (vs.getD x.2.1.toNat ([], 0)).1 [] :: st, cs, pd)
 else if x.1 = 3 then (if x.2.1 = 9 ∨ x.2.1 = 16 then (.mk x.2.1 0 [] (st.take 1).reverse :: st.drop 1, cs, pd) else (.mk x.2.1 0 [] (st.take 2).reverse :: st.drop 2, cs, pd))
 else if x.1 = 5 then (st.drop 1, st.headD E0 :: cs, pd)
 else (st.drop 1, cs.drop 1, (x.2.1, cs.headD E0, st.headD E0) :: pd)
end Go.Proofs.YthanoilbcdhbkaaGreatDoor.YM

namespace Go.Proofs.YthanoilbcdhbkaaGreatDoor.YM
open Go Go.Lib WM TM EM
abbrev St := Option (Option (List Int))
def meet (s : St) (l : List Int) : St :=
 match s with
 | none => some (some l)
 | some none => some none
 | some (some m) => if m = l then some (some m) else some none
def upd (S : Nat → St) (i : Nat) (s : St) : Nat → St := fun j => if j = i then s else S j
def pushB (a n : Int) : Bool := decide (0 ≤ n) && (decide (a = 1) || (decide (a = 2) && decide (n ≤ 1000000000000)) || (decide (a = 3) && decide (n ≤ 1000000)))
def aft (vs : List Vr) (n i : Nat) (x : Ins) (l : List Int) : Option (List Int) :=
 if x.1 = 1 then (if pushB x.2.1 x.2.2 then some (l ++ [x.2.1]) else none)
 else if x.2.2 ≠ 0 then none
 else if x.1 = 2 then (if 0 ≤ x.2.1 ∧ x.2.1 < vs.length then some (l ++ [(vs.getD x.2.1.toNat ([], 0)).2]) else none)
 else if x.1 = 3 then
  if x.2.1 < 5 ∨ 18 < x.2.1 then none
  else if l.length < (if x.2.1 = 9 ∨ x.2.1 = 16 then 1 else 2) then none
  else (resO x.2.1 (l.drop (l.length - (if x.2.1 = 9 ∨ x.2.1 = 16 then 1 else 2)))).map fun t => l.take (l.length - (if x.2.1 = 9 ∨ x.2.1 = 16 then 1 else 2)) ++ [t]
 else if x.1 = 4 then (if (i : Int) < x.2.1 ∧ x.2.1 ≤ n then some l else none)
 else if x.1 = 5 then (if l.getLast? = some 5 ∧ (i : Int) < x.2.1 ∧ x.2.1 ≤ n then some l.dropLast else none)
 else none
def step (x : Ins) (i : Nat) (m : List Int) (S : Nat → St) : Nat → St :=
 if x.1 = 4 then upd S x.2.1.toNat (meet (S x.2.1.toNat) m)
 else if x.1 = 5 then upd (upd S x.2.1.toNat (meet (S x.2.1.toNat) m)) (i + 1) (meet ((upd S x.2.1.toNat (meet (S x.2.1.toNat) m)) (i + 1)) m)
 else upd S (i + 1) (meet (S (i + 1)) m)
def go (t : Int) (vs : List Vr) (c : List Ins) : Nat → Nat → (Nat → St) → Nat → Int × Int
 | 0, _, _, _ => (0, 9)
 | f + 1, i, S, d =>
  match S i with
  | some (some l) =>
   if c.length ≤ i then (if l = [t] then (((max d l.length : Nat) : Int), 0) else (0, 9))
   else match aft vs c.length i (c.getD i (0, 0, 0)) l with
    | none => (0, 9)
    | some m => if 16 < m.length then (0, 5) else go t vs c f (i + 1) (step (c.getD i (0, 0, 0)) i m S) (max d l.length)
  | _ => (0, 9)
def S0 : Nat → St := upd (fun _ => none) 0 (some (some []))
def runC (t : Int) (vs : List Vr) (c : List Ins) : Int × Int :=
 if 128 < c.length then (0, 5) else if vsE vs ≠ 0 then (0, vsE vs) else go t vs c (c.length + 1) 0 S0 0

/-! ### What is compiled is valid -/
section
variable (t : Int) (vs : List Vr) (c : List Ins)
def G (i : Nat) (S : Nat → St) (d : Nat) : Int × Int := go t vs c (c.length + 1 - i) i S d
def Sub (p : Nat) (L : List Ins) : Prop := ∃ s, c.drop p = L ++ s
variable {t vs c}
theorem Sub.cons {p : Nat} {x : Ins} {B : List Ins} (h : Sub c p (x :: B)) : p < c.length ∧ c.getD p (0, 0, 0) = x ∧ Sub c (p + 1) B := by
 obtain ⟨s, h⟩ := h
 have hl : p < c.length := by
  have := congrArg List.length h
  rw [List.length_drop] at this
  simp at this
  omega
 refine ⟨hl, ?_, s, ?_⟩
 ·rw [List.drop_eq_getElem_cons hl] at h
  injection h with h1 h2
  rw [List.getD_eq_getElem?_getD, List.getElem?_eq_getElem hl, Option.getD_some, h1]
 ·rw [← List.drop_drop, h]; rfl
theorem Sub.len {p : Nat} {L : List Ins} (h : Sub c p L) : L.length = 0 ∨ p + L.length ≤ c.length := by
 obtain ⟨s, h⟩ := h
 have := congrArg List.length h
 rw [List.length_drop, List.length_append] at this
 omega
theorem upd_same (S : Nat → St) (i : Nat) (s : St) : upd S i s i = s := by unfold upd; rw [if_pos rfl]
theorem upd_ne (S : Nat → St) {i j : Nat} (s : St) (h : j ≠ i) : upd S i s j = S j := by unfold upd; rw [if_neg h]
def Does (p q : Nat) (S : Nat → St) (d : Nat) (m : List Int) (N : Nat) : Prop :=
 ∃ S' d', G t vs c p S d = G t vs c q S' d' ∧ S' q = some (some m) ∧ (∀ j, q < j → S' j = S j) ∧ d' ≤ max d N ∧ d ≤ d'
theorem Does.trans {p q r : Nat} {S : Nat → St} {d N : Nat} {m m2 : List Int} (h : Does (t := t) (vs := vs) (c := c) p q S d m N)
  (h2 : ∀ S' d', S' q = some (some m) → (∀ j, q < j → S' j = S j) → Does (t := t) (vs := vs) (c := c) q r S' d' m2 N) (hqr : q ≤ r) : Does (t := t) (vs := vs) (c := c) p r S d m2 N := by
 obtain ⟨S1, d1, e1, s1, f1, a1, b1⟩ := h
 obtain ⟨S2, d2, e2, s2, f2, a2, b2⟩ := h2 S1 d1 s1 f1
 exact ⟨S2, d2, e1.trans e2, s2, fun j hj => by rw [f2 j hj, f1 j (by omega)], by omega, by omega⟩
end
end Go.Proofs.YthanoilbcdhbkaaGreatDoor.YM

namespace Go.Proofs.YthanoilbcdhbkaaGreatDoor.YM
open Go Go.Lib WM TM EM
def Form (vs : List Vr) (n i : Nat) (x : Ins) : Prop :=
 (x.1 = 1 ∧ 1 ≤ x.2.1 ∧ x.2.1 ≤ 3 ∧ 0 ≤ x.2.2 ∧ (x.2.1 = 2 → x.2.2 ≤ 1000000000000) ∧ (x.2.1 = 3 → x.2.2 ≤ 1000000)) ∨
  (x.2.2 = 0 ∧ ((x.1 = 2 ∧ 0 ≤ x.2.1 ∧ x.2.1 < vs.length) ∨ (x.1 = 3 ∧ 5 ≤ x.2.1 ∧ x.2.1 ≤ 18) ∨ ((x.1 = 4 ∨ x.1 = 5) ∧ (i : Int) < x.2.1 ∧ x.2.1 ≤ n)))
theorem aft_form {vs : List Vr} {n i : Nat} {x : Ins} {l m : List Int} (h : aft vs n i x l = some m) : Form vs n i x := by
 unfold aft at h
 unfold Form
 by_cases h1 : x.1 = 1
 ·rw [if_pos h1] at h
  refine Or.inl ⟨h1, ?_⟩
  by_cases hp : pushB x.2.1 x.2.2 = true
  ·unfold pushB at hp
   simp only [Bool.and_eq_true, Bool.or_eq_true, decide_eq_true_eq] at hp
   omega
  ·rw [if_neg hp] at h; cases h
 ·rw [if_neg h1] at h
  by_cases h0 : x.2.2 = 0
  ·rw [if_neg (by omega)] at h
   refine Or.inr ⟨h0, ?_⟩
   by_cases h2 : x.1 = 2
   ·rw [if_pos h2] at h
    split at h
    ·rename_i q; exact Or.inl ⟨h2, q⟩
    ·cases h
   ·rw [if_neg h2] at h
    by_cases h3 : x.1 = 3
    ·rw [if_pos h3] at h
     split at h
     ·cases h
     ·rename_i q; exact Or.inr (Or.inl ⟨h3, by omega, by omega⟩)
    ·rw [if_neg h3] at h
     by_cases h4 : x.1 = 4
     ·rw [if_pos h4] at h
      split at h
      ·rename_i q; exact Or.inr (Or.inr ⟨Or.inl h4, q⟩)
      ·cases h
     ·rw [if_neg h4] at h
      by_cases h5 : x.1 = 5
      ·rw [if_pos h5] at h
       split at h
       ·rename_i q; exact Or.inr (Or.inr ⟨Or.inr h5, q.2⟩)
       ·cases h
      ·rw [if_neg h5] at h; cases h
  ·rw [if_pos h0] at h; cases h
theorem go_valid {t : Int} {vs : List Vr} {c : List Ins} : ∀ (f i : Nat) (S : Nat → St) (d : Nat), (go t vs c f i S d).2 = 0 → ∀ j, i ≤ j → j < c.length → Form vs c.length j (c.getD j (0, 0, 0)) := by
 intro f
 induction f with
 | zero => intro i S d h; cases h
 | succ f ih =>
  intro i S d h j h1 h2
  rw [go] at h
  split at h
  ·rename_i l _
   rw [if_neg (by omega)] at h
   split at h
   ·cases h
   ·rename_i m hm
    split at h
    ·cases h
    ·by_cases hj : j = i
     ·subst hj; exact aft_form hm
     ·exact ih (i + 1) _ _ h j (by omega) h2
  ·cases h
theorem runC_valid {t : Int} {vs : List Vr} {c : List Ins} (h : (runC t vs c).2 = 0) : c.length ≤ 128 ∧ vsE vs = 0 ∧ ∀ j, j < c.length → Form vs c.length j (c.getD j (0, 0, 0)) := by
 unfold runC at h
 by_cases h1 : 128 < c.length
 ·rw [if_pos h1] at h; cases h
 ·rw [if_neg h1] at h
  by_cases h2 : vsE vs = 0
  ·rw [if_neg (by omega)] at h
   exact ⟨by omega, h2, fun j hj => go_valid _ _ _ _ h j (Nat.zero_le _) hj⟩
  ·rw [if_pos h2] at h; exact absurd h h2
/-! ### The text of code -/
def tyW (a : Int) : List UInt8 := if a = 1 then [110, 117, 109, 98, 101, 114] else if a = 2 then [97, 109, 111, 117, 110, 116] else if a = 3 then [114, 97, 116, 101] else []
def opWs : List (List UInt8) := [[97, 100, 100], [115, 117, 98], [109, 117, 108], [100, 105, 118], [110, 101, 103], [101, 113], [110, 101], [108, 116], [108, 101], [97, 110, 100], [111, 114], [110, 111, 116], [109, 105, 110], [109, 97, 120]]
def insT (vs : List Vr) (x : Ins) : List UInt8 :=
 if x.1 = 1 then [112, 117, 115, 104, 32] ++ tyW x.2.1 ++ [32] ++ itoa x.2.2 ++ [10]
 else if x.1 = 2 then [108, 111, 97, 100, 32] ++ (vs.getD x.2.1.toNat ([], 0)).1 ++ [10]
 else if x.1 = 3 then opWs.getD (x.2.1 - 5).toNat [] ++ [10]
 else if x.1 = 4 then [106, 117, 109, 112, 32] ++ itoa x.2.1 ++ [10]
 else if x.1 = 5 then [102, 97, 108, 115, 101, 32] ++ itoa x.2.1 ++ [10]
 else []
def linesT (vs : List Vr) (c : List Ins) : List UInt8 := (c.map (insT vs)).flatten
theorem linesT_next (vs : List Vr) (c : List Ins) (k : Nat) (h : k < c.length) : linesT vs (c.take (k + 1)) = linesT vs (c.take k) ++ insT vs (c.getD k (0, 0, 0)) := by
 unfold linesT
 rw [List.take_succ_eq_append_getElem h, List.map_append, List.flatten_append, List.getD_eq_getElem?_getD, List.getElem?_eq_getElem h, Option.getD_some]
 simp
def prT (t : Int) (vs : List Vr) (c : List Ins) : List UInt8 := if (runC t vs c).2 = 0 then linesT vs c else []

/-! ### The chapter's example -/
def sX : Ex := .mk 19 0 [] [.mk 12 0 [] [.mk 4 0 [97, 103, 101] [], .mk 1 5 [] []], .mk 2 3 [] [], .mk 4 0 [97, 109, 111, 117, 110, 116] []]
def sV : List Vr := [([97, 103, 101], 1), ([97, 109, 111, 117, 110, 116], 2)]
def sC : List Ins := [(2, 0, 0), (1, 1, 5), (3, 12, 0), (5, 6, 0), (1, 2, 3), (4, 7, 0), (2, 1, 0)]
theorem s_em : em sV 0 sX = sC := by decide +kernel
theorem s_of : ofT sX sV = (2, 0) := by decide +kernel
theorem s_vs : vsE sV = 0 := by decide +kernel
theorem s_run : runC 2 sV sC = (2, 0) := by decide +kernel
theorem s_one : ofT sX (sV.take 1) = (0, 4) ∧ vsE (sV.take 1) = 0 := by decide +kernel
theorem s_text : prT 2 sV sC = [108, 111, 97, 100, 32, 97, 103, 101, 10, 112, 117, 115, 104, 32, 110, 117, 109, 98, 101, 114, 32, 53, 10, 108, 116, 10, 102, 97, 108, 115, 101, 32, 54, 10, 112, 117, 115, 104, 32, 97, 109, 111, 117, 110, 116, 32, 51, 10, 106, 117, 109, 112, 32, 55, 10, 108, 111, 97, 100, 32, 97, 109, 111, 117, 110, 116, 10] := by decide +kernel
theorem s_bad : runC 2 [] [(1, 1, 1)] = (0, 9) := by decide +kernel
end Go.Proofs.YthanoilbcdhbkaaGreatDoor.YM
