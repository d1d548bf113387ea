/-
  Types of expressions, plain: the type of an operator, of an expression; variables; what replacing and reordering variables keeps.
-/
import Derived.Test.YtcnnkobiijhegaaDoorEV
namespace Go.Proofs.YtcnnkobiijhegaaDoor.YM
open Go Go.Lib WM TM EM
def good (t : Int) : Bool := decide (1 ≤ t) && decide (t ≤ 5)
def scal (t : Int) : Bool := decide (1 ≤ t) && decide (t ≤ 3)
/-- The type of a result if b holds. -/
def iff' (t : Int) (b : Bool) : Option Int := if b then some t else none
/-- The type of a product. -/
def prodO (a b : Int) : Option Int :=
  if scal a = false ∨ scal b = false then none else if a = 1 then some b else if b = 1 then some a else iff' 2 (decide (a ≠ b))
/-- The type of an operator with two operands. -/
def twoO (o a b : Int) : Option Int :=
  if o = 5 then (if a = 4 then iff' a (decide (b = 1)) else iff' a (decide (a = b) && scal a))
  else if o = 6 then (if a = 4 ∧ b = 4 then some 1 else if a = 4 then iff' a (decide (b = 1)) else iff' a (decide (a = b) && scal a))
  else if o = 7 then prodO a b
  else if o = 8 then (if a = 2 ∧ b = 2 then some 1 else iff' a (scal a && decide (b = 1)))
  else if o = 10 ∨ o = 11 then iff' 5 (decide (a = b))
  else if o = 12 ∨ o = 13 then iff' 5 (decide (a = b) && decide (a ≠ 5))
  else if o = 14 ∨ o = 15 then iff' 5 (decide (a = 5) && decide (b = 5))
  else if o = 17 ∨ o = 18 then iff' a (decide (a = b) && decide (a ≠ 5))
  else none
/-- The type of an operator for types. -/
def rawO (o : Int) : List Int → Option Int
  | [a] => if o = 9 then iff' a (scal a) else if o = 16 then iff' 5 (decide (a = 5)) else none
  | [a, b] => twoO o a b
  | [a, b, c] => if o = 19 then iff' b (decide (a = 5) && decide (b = c)) else none
  | _ => none
def resO (o : Int) (l : List Int) : Option Int := if l.all good then rawO o l else none

abbrev Vr := List UInt8 × Int
/-- The type of a variable, and the error. -/
def look (vs : List Vr) (s : List UInt8) : Int × Int :=
  match vs.find? (fun v => decide (v.1 = s)) with
  | none => (0, 4)
  | some v => if good v.2 then (v.2, 0) else (0, 3)
def opT (o : Int) (l : List Int) : Int × Int :=
  match resO o l with
  | none => (0, 3)
  | some t => (t, 0)
mutual
/-- The type of a valid expression, and the error. -/
def ty (vs : List Vr) : Ex → Int × Int
  | .mk o _ s a =>
    if o = 1 then (1, 0) else if o = 2 then (2, 0) else if o = 3 then (3, 0) else if o = 4 then look vs s
    else if (tys vs a).2 = 0 then opT o (tys vs a).1 else (0, (tys vs a).2)
/-- The types of operands, up to the first error. -/
def tys (vs : List Vr) : List Ex → List Int × Int
  | [] => ([], 0)
  | e :: l => if (ty vs e).2 = 0 then ((ty vs e).1 :: (tys vs l).1, (tys vs l).2) else ([], (ty vs e).2)
end
def ofT (e : Ex) (vs : List Vr) : Int × Int := if vE e = 0 then ty vs e else (0, vE e)
def chkE (e : Ex) (vs : List Vr) (want : Int) : Int := if (ofT e vs).2 = 0 then (if (ofT e vs).1 = want then 0 else 3) else (ofT e vs).2

theorem ty_mk (vs : List Vr) (e : Ex) : ty vs e = if e.op = 1 then (1, 0) else if e.op = 2 then (2, 0) else if e.op = 3 then (3, 0) else if e.op = 4 then look vs e.s
    else if (tys vs e.args).2 = 0 then opT e.op (tys vs e.args).1 else (0, (tys vs e.args).2) := by cases e; rfl
theorem tys_app (vs : List Vr) (l m : List Ex) : tys vs (l ++ m) = if (tys vs l).2 = 0 then ((tys vs l).1 ++ (tys vs m).1, (tys vs m).2) else tys vs l := by
  induction l with
  | nil => simp [tys]
  | cons e l ih =>
    rw [List.cons_append, tys, tys, ih]
    by_cases h : (ty vs e).2 = 0
    · simp only [if_pos h]
      by_cases h2 : (tys vs l).2 = 0
      · simp [if_pos h2]
      · simp [if_neg h2]
    · simp only [if_neg h]
theorem tys_one (vs : List Vr) (e : Ex) : tys vs [e] = if (ty vs e).2 = 0 then ([(ty vs e).1], 0) else ([], (ty vs e).2) := by simp [tys]
/-- The next operand. -/
theorem tys_take (vs : List Vr) (l : List Ex) (k : Nat) (h : k < l.length) (h0 : (tys vs (l.take k)).2 = 0) :
    tys vs (l.take (k + 1)) = if (ty vs (l.getD k E0)).2 = 0 then ((tys vs (l.take k)).1 ++ [(ty vs (l.getD k E0)).1], 0) else ((tys vs (l.take k)).1, (ty vs (l.getD k E0)).2) := by
  rw [take_gx E0 l k h, tys_app, if_pos h0, tys_one]
  split <;> simp
theorem tys_bad (vs : List Vr) (l : List Ex) (k : Nat) (h0 : (tys vs (l.take k)).2 ≠ 0) : tys vs l = tys vs (l.take k) := by
  conv => lhs; rw [← List.take_append_drop k l]
  rw [tys_app, if_neg h0]
theorem tys_len (vs : List Vr) (l : List Ex) (h : (tys vs l).2 = 0) : (tys vs l).1.length = l.length := by
  induction l with
  | nil => rfl
  | cons e l ih =>
    rw [tys] at h ⊢
    by_cases h1 : (ty vs e).2 = 0
    · simp only [if_pos h1] at h ⊢
      simp [ih h]
    · simp only [if_neg h1] at h
      exact absurd h h1
theorem tys_full (vs : List Vr) (l : List Ex) : tys vs (l.take l.length) = tys vs l := by rw [List.take_length]
theorem iff_some {t : Int} {b : Bool} {u : Int} (h : iff' t b = some u) : u = t ∧ b = true := by
  unfold iff' at h
  cases b
  · simp at h
  · simp at h; exact ⟨h.symm, rfl⟩
theorem good_scal {t : Int} (h : scal t = true) : good t = true := by
  unfold scal at h; unfold good
  simp only [Bool.and_eq_true, decide_eq_true_eq] at h ⊢
  omega
theorem good_iff {t : Int} : good t = true ↔ 1 ≤ t ∧ t ≤ 5 := by unfold good; simp
theorem scal_iff {t : Int} : scal t = true ↔ 1 ≤ t ∧ t ≤ 3 := by unfold scal; simp
theorem prod_good {a b u : Int} (h : prodO a b = some u) : good u = true := by
  unfold prodO at h
  by_cases h1 : scal a = false ∨ scal b = false
  · rw [if_pos h1] at h; cases h
  · rw [if_neg h1] at h
    have ha : scal a = true := by cases hc : scal a <;> simp_all
    have hb : scal b = true := by cases hc : scal b <;> simp_all
    split at h
    · cases h; exact good_scal hb
    · split at h
      · cases h; exact good_scal ha
      · obtain ⟨rfl, _⟩ := iff_some h; rfl
theorem two_good {o a b u : Int} (ha : good a = true) (h : twoO o a b = some u) : good u = true := by
  unfold twoO at h
  repeat' split at h
  all_goals first
    | exact prod_good h
    | (cases h; rfl)
    | (obtain ⟨rfl, _⟩ := iff_some h; first | exact ha | rfl)
    | cases h
theorem res_good {o : Int} {l : List Int} {u : Int} (h : resO o l = some u) : good u = true := by
  unfold resO at h
  by_cases hg : l.all good = true
  · rw [if_pos hg] at h
    unfold rawO at h
    split at h
    · simp only [List.all_cons, List.all_nil, Bool.and_true] at hg
      split at h
      · obtain ⟨rfl, _⟩ := iff_some h; exact hg
      · split at h
        · obtain ⟨rfl, _⟩ := iff_some h; rfl
        · cases h
    · simp only [List.all_cons, List.all_nil, Bool.and_true, Bool.and_eq_true] at hg
      exact two_good hg.1 h
    · simp only [List.all_cons, List.all_nil, Bool.and_true, Bool.and_eq_true] at hg
      split at h
      · obtain ⟨rfl, _⟩ := iff_some h; exact hg.2.1
      · cases h
    · cases h
  · rw [if_neg hg] at h; cases h
theorem opT_good {o : Int} {l : List Int} (h : (opT o l).2 = 0) : good (opT o l).1 = true := by
  unfold opT at h ⊢
  cases hr : resO o l with
  | none => rw [hr] at h; cases h
  | some t => exact res_good hr
theorem look_good {vs : List Vr} {s : List UInt8} (h : (look vs s).2 = 0) : good (look vs s).1 = true := by
  unfold look at h ⊢
  cases hv : vs.find? (fun v => decide (v.1 = s)) with
  | none => rw [hv] at h; cases h
  | some v =>
    rw [hv] at h
    by_cases hg : good v.2 = true
    · simp only [if_pos hg]; exact hg
    · simp only [if_neg hg] at h; cases h
theorem ty_num (vs : List Vr) {e : Ex} (h : e.op = 1 ∨ e.op = 2 ∨ e.op = 3) : ty vs e = (e.op, 0) := by
  rw [ty_mk]; rcases h with h | h | h <;> simp [h]
theorem ty_var (vs : List Vr) {e : Ex} (h : e.op = 4) : ty vs e = look vs e.s := by rw [ty_mk]; simp [h]
theorem ty_opr (vs : List Vr) {e : Ex} (h : ¬ (1 ≤ e.op ∧ e.op ≤ 4)) : ty vs e = if (tys vs e.args).2 = 0 then opT e.op (tys vs e.args).1 else (0, (tys vs e.args).2) := by
  rw [ty_mk, if_neg (by omega), if_neg (by omega), if_neg (by omega), if_neg (by omega)]
theorem op_cases (e : Ex) : (e.op = 1 ∨ e.op = 2 ∨ e.op = 3) ∨ e.op = 4 ∨ ¬ (1 ≤ e.op ∧ e.op ≤ 4) := by omega
theorem ty_good (vs : List Vr) (e : Ex) (h : (ty vs e).2 = 0) : good (ty vs e).1 = true := by
  rcases op_cases e with c | c | c
  · rw [ty_num vs c]; rw [good_iff]; dsimp; omega
  · rw [ty_var vs c] at h ⊢; exact look_good h
  · rw [ty_opr vs c] at h ⊢
    by_cases h1 : (tys vs e.args).2 = 0
    · rw [if_pos h1] at h ⊢; exact opT_good h
    · rw [if_neg h1] at h; exact absurd h h1
theorem look_zero {vs : List Vr} {s : List UInt8} (h : (look vs s).2 ≠ 0) : (look vs s).1 = 0 := by
  unfold look at h ⊢
  cases hv : vs.find? (fun v => decide (v.1 = s)) with
  | none => rfl
  | some v =>
    rw [hv] at h
    by_cases hg : good v.2 = true
    · simp only [if_pos hg] at h; exact absurd rfl h
    · simp only [if_neg hg]
theorem ty_zero (vs : List Vr) (e : Ex) (h : (ty vs e).2 ≠ 0) : (ty vs e).1 = 0 := by
  rcases op_cases e with c | c | c
  · rw [ty_num vs c] at h; exact absurd rfl h
  · rw [ty_var vs c] at h ⊢; exact look_zero h
  · rw [ty_opr vs c] at h ⊢
    by_cases h1 : (tys vs e.args).2 = 0
    · rw [if_pos h1] at h ⊢
      unfold opT at h ⊢
      cases hr : resO e.op (tys vs e.args).1 with
      | none => rfl
      | some t => rw [hr] at h; exact absurd rfl h
    · rw [if_neg h1]

/-! ### Variables -/
/-- What Vars says of a list behind others. -/
def vsL : List Vr → List Vr → Int
  | _, [] => 0
  | p, v :: l => if varOk v.1 = false then 4 else if (p.map Prod.fst).contains v.1 then 12 else if good v.2 = false then 3 else vsL (p ++ [v]) l
def vsE (l : List Vr) : Int := if 64 < l.length then 5 else vsL [] l
theorem vsL_zero : ∀ (l p : List Vr), vsL p l = 0 ↔ ((∀ v ∈ l, varOk v.1 = true ∧ good v.2 = true) ∧ (∀ v ∈ l, v.1 ∉ p.map Prod.fst) ∧ (l.map Prod.fst).Nodup) := by
  intro l
  induction l with
  | nil => intro p; simp [vsL]
  | cons v l ih =>
    intro p
    rw [vsL]
    by_cases h1 : varOk v.1 = false
    · rw [if_pos h1]
      refine ⟨fun h => absurd h (by decide), fun h => ?_⟩
      have := (h.1 v (by simp)).1
      rw [h1] at this; cases this
    · rw [if_neg h1]
      by_cases h2 : (p.map Prod.fst).contains v.1 = true
      · rw [if_pos h2]
        refine ⟨fun h => absurd h (by decide), fun h => ?_⟩
        exact absurd (List.contains_iff_mem.1 h2) (h.2.1 v (by simp))
      · rw [if_neg h2]
        by_cases h3 : good v.2 = false
        · rw [if_pos h3]
          refine ⟨fun h => absurd h (by decide), fun h => ?_⟩
          have := (h.1 v (by simp)).2
          rw [h3] at this; cases this
        · rw [if_neg h3, ih]
          have h1' : varOk v.1 = true := by cases h : varOk v.1 <;> simp_all
          have h3' : good v.2 = true := by cases h : good v.2 <;> simp_all
          have h2' : v.1 ∉ p.map Prod.fst := fun h => h2 (List.contains_iff_mem.2 h)
          constructor
          · rintro ⟨a, b, c⟩
            refine ⟨?_, ?_, ?_⟩
            · intro x hx
              rcases List.mem_cons.1 hx with rfl | hx
              · exact ⟨h1', h3'⟩
              · exact a x hx
            · intro x hx
              rcases List.mem_cons.1 hx with rfl | hx
              · exact h2'
              · intro hp; exact b x hx (by rw [List.map_append]; exact List.mem_append_left _ hp)
            · rw [List.map_cons, List.nodup_cons]
              refine ⟨fun hm => ?_, c⟩
              obtain ⟨y, hy, e⟩ := List.mem_map.1 hm
              exact b y hy (by rw [e, List.map_append]; exact List.mem_append_right _ (by simp))
          · rintro ⟨a, b, c⟩
            rw [List.map_cons, List.nodup_cons] at c
            refine ⟨fun x hx => a x (List.mem_cons_of_mem _ hx), fun x hx hp => ?_, c.2⟩
            rw [List.map_append, List.mem_append] at hp
            rcases hp with hp | hp
            · exact b x (List.mem_cons_of_mem _ hx) hp
            · simp only [List.map_cons, List.map_nil, List.mem_singleton] at hp
              exact c.1 (hp ▸ List.mem_map_of_mem (f := Prod.fst) hx)
theorem vsE_zero (l : List Vr) : vsE l = 0 ↔ l.length ≤ 64 ∧ (∀ v ∈ l, varOk v.1 = true ∧ good v.2 = true) ∧ (l.map Prod.fst).Nodup := by
  unfold vsE
  by_cases h : 64 < l.length
  · rw [if_pos h]
    exact ⟨fun h => absurd h (by decide), fun h' => absurd h'.1 (by omega)⟩
  · rw [if_neg h, vsL_zero]
    exact ⟨fun a => ⟨by omega, a.1, a.2.2⟩, fun a => ⟨a.2.1, fun v _ => by simp, a.2.2⟩⟩
theorem nd_rev {α : Type} {l : List α} (h : l.Nodup) : l.reverse.Nodup := by
  unfold List.Nodup at *
  rw [List.pairwise_reverse]
  exact h.imp Ne.symm
/-- Reordered variables. -/
theorem vsE_back (l : List Vr) (h : vsE l = 0) : vsE l.reverse = 0 := by
  rw [vsE_zero] at h ⊢
  refine ⟨by rw [List.length_reverse]; exact h.1, fun v hv => h.2.1 v (List.mem_reverse.1 hv), ?_⟩
  rw [List.map_reverse]
  exact nd_rev h.2.2
theorem find_nodup (s : List UInt8) : ∀ (l : List Vr), (l.map Prod.fst).Nodup → ∀ v ∈ l, v.1 = s → l.find? (fun v => decide (v.1 = s)) = some v := by
  intro l
  induction l with
  | nil => intro _ v hv; cases hv
  | cons x l ih =>
    intro hn v hv hs
    rw [List.map_cons, List.nodup_cons] at hn
    rcases List.mem_cons.1 hv with rfl | hv
    · rw [List.find?_cons, decide_eq_true hs]
    · have hx : x.1 ≠ s := by rintro rfl; exact hn.1 (hs ▸ List.mem_map_of_mem (f := Prod.fst) hv)
      rw [List.find?_cons, decide_eq_false hx]
      exact ih hn.2 v hv hs
theorem look_back (l : List Vr) (s : List UInt8) (h : (l.map Prod.fst).Nodup) : look l.reverse s = look l s := by
  have hr : (l.reverse.map Prod.fst).Nodup := by rw [List.map_reverse]; exact nd_rev h
  have : l.reverse.find? (fun v => decide (v.1 = s)) = l.find? (fun v => decide (v.1 = s)) := by
    cases hf : l.find? (fun v => decide (v.1 = s)) with
    | none =>
      rw [List.find?_eq_none] at hf ⊢
      exact fun x hx => hf x (List.mem_reverse.1 hx)
    | some v =>
      have h1 := List.mem_of_find?_eq_some hf
      have h2 : v.1 = s := of_decide_eq_true (List.find?_some (p := fun v : Vr => decide (v.1 = s)) hf)
      exact find_nodup s _ hr v (List.mem_reverse.2 h1) h2
  unfold look
  rw [this]
theorem tys_congr {vs ws : List Vr} : ∀ l : List Ex, (∀ e ∈ l, ty vs e = ty ws e) → tys vs l = tys ws l := by
  intro l
  induction l with
  | nil => intro _; rfl
  | cons e l ih =>
    intro h
    rw [tys, tys, h e (by simp), ih (fun x hx => h x (by simp [hx]))]
theorem ty_back (l : List Vr) (h : (l.map Prod.fst).Nodup) : ∀ e, ty l.reverse e = ty l e := by
  refine ex_ind _ fun e ih => ?_
  rcases op_cases e with c | c | c
  · rw [ty_num _ c, ty_num _ c]
  · rw [ty_var _ c, ty_var _ c, look_back l _ h]
  · rw [ty_opr _ c, ty_opr _ c, tys_congr e.args ih]
theorem ofT_back (e : Ex) (l : List Vr) (h : vsE l = 0) : ofT e l.reverse = ofT e l := by
  unfold ofT
  rw [ty_back l ((vsE_zero l).1 h).2.2]

/-! ### Variables replaced by values -/
/-- A value in the place of a variable of its type. -/
def put (vs : List Vr) (n : Int) (s : List UInt8) (e : Ex) : Ex :=
  match vs.find? (fun v => decide (v.1 = s)) with
  | none => e
  | some v => if v.2 = 1 then .mk 1 n [] [] else if v.2 = 2 then .mk 2 n [] [] else if v.2 = 3 then .mk 3 n [] [] else e
mutual
def fill (vs : List Vr) (n : Int) : Ex → Ex
  | .mk o m s a => if o = 4 then put vs n s (.mk o m s a) else .mk o m s (fills vs n a)
def fills (vs : List Vr) (n : Int) : List Ex → List Ex
  | [] => []
  | e :: l => fill vs n e :: fills vs n l
end
theorem fills_map (vs : List Vr) (n : Int) (l : List Ex) : fills vs n l = l.map (fill vs n) := by
  induction l with
  | nil => rfl
  | cons e l ih => rw [fills, ih]; rfl
theorem fill_var (vs : List Vr) (n : Int) {e : Ex} (h : e.op = 4) : fill vs n e = put vs n e.s e := by
  cases e with
  | mk o m s a => rw [fill]; exact if_pos h
theorem fill_opr (vs : List Vr) (n : Int) {e : Ex} (h : e.op ≠ 4) : fill vs n e = .mk e.op e.n e.s (e.args.map (fill vs n)) := by
  cases e with
  | mk o m s a => rw [fill, fills_map]; exact if_neg h
theorem put_cases (vs : List Vr) (n : Int) (s : List UInt8) (e : Ex) : put vs n s e = e ∨ (∃ v, vs.find? (fun v => decide (v.1 = s)) = some v ∧ (v.2 = 1 ∨ v.2 = 2 ∨ v.2 = 3) ∧ put vs n s e = .mk v.2 n [] []) := by
  unfold put
  cases hv : vs.find? (fun v => decide (v.1 = s)) with
  | none => exact Or.inl rfl
  | some v =>
    by_cases h1 : v.2 = 1
    · exact Or.inr ⟨v, rfl, Or.inl h1, by simp [h1]⟩
    · by_cases h2 : v.2 = 2
      · exact Or.inr ⟨v, rfl, Or.inr (Or.inl h2), by simp [h2]⟩
      · by_cases h3 : v.2 = 3
        · exact Or.inr ⟨v, rfl, Or.inr (Or.inr h3), by simp [h3]⟩
        · exact Or.inl (by simp only [if_neg h1, if_neg h2, if_neg h3])
theorem tys_fill {vs : List Vr} {n : Int} : ∀ l : List Ex, (∀ e ∈ l, (ty vs e).2 = 0 → ty vs (fill vs n e) = ty vs e) → (tys vs l).2 = 0 → tys vs (l.map (fill vs n)) = tys vs l := by
  intro l
  induction l with
  | nil => intro _ _; rfl
  | cons e l ih =>
    intro h h0
    rw [tys] at h0
    by_cases h1 : (ty vs e).2 = 0
    · rw [if_pos h1] at h0
      rw [List.map_cons, tys, tys, h e (by simp) h1, ih (fun x hx => h x (by simp [hx])) h0]
    · rw [if_neg h1] at h0; exact absurd h0 h1
/-- A replaced expression has the same type. -/
theorem ty_fill (vs : List Vr) (n : Int) : ∀ e, (ty vs e).2 = 0 → ty vs (fill vs n e) = ty vs e := by
  refine ex_ind _ fun e ih h0 => ?_
  by_cases h4 : e.op = 4
  · rw [fill_var vs n h4]
    rcases put_cases vs n e.s e with h | ⟨v, hv, ht, h⟩
    · rw [h]
    · rw [h, ty_var vs h4]
      unfold look
      rw [hv, ty_num vs (e := .mk v.2 n [] []) ht]
      have hg : good v.2 = true := by rw [good_iff]; omega
      simp only [if_pos hg]
      rfl
  · rw [fill_opr vs n h4]
    rcases op_cases e with c | c | c
    · rw [ty_num vs c, ty_num vs (e := .mk e.op _ _ _) c]; rfl
    · exact absurd c h4
    · rw [ty_opr vs c] at h0
      by_cases h1 : (tys vs e.args).2 = 0
      · rw [ty_opr vs c, ty_opr vs (e := .mk e.op _ _ _) c]
        show (if (tys vs (e.args.map (fill vs n))).2 = 0 then opT e.op (tys vs (e.args.map (fill vs n))).1 else (0, (tys vs (e.args.map (fill vs n))).2)) = _
        rw [tys_fill e.args ih h1]
      · rw [if_neg h1] at h0; exact absurd h0 h1

/-! ### Validity -/
theorem pres_all' (p : Ex → Bool) (l : List Ex) : (pres l).all p = l.all fun e => (EM.pre e).all p := by
  induction l with
  | nil => rfl
  | cons e l ih => rw [pres, List.all_append, ih]; rfl
theorem pre_all (p : Ex → Bool) (e : Ex) : (EM.pre e).all p = (p e && e.args.all fun x => (EM.pre x).all p) := by
  obtain ⟨o, n, s, a⟩ := e
  rw [EM.pre, List.all_cons, pres_all']
  rfl
/-- Validity without its limits. -/
def okN (e : Ex) : Bool := fmd e && nameB e
theorem vE_zero (e : Ex) : vE e = 0 ↔ dep e ≤ 8 ∧ siz e ≤ 64 ∧ (EM.pre e).all okN = true := by
  have hb : (EM.pre e).all okN = (right e && vnames e) := by
    unfold right vnames
    induction EM.pre e with
    | nil => rfl
    | cons x l ih =>
      rw [List.all_cons, List.all_cons, List.all_cons, ih]
      unfold okN
      cases fmd x <;> cases nameB x <;> cases l.all fmd <;> cases l.all nameB <;> rfl
  rw [hb]
  unfold vE
  by_cases h1 : dep e ≤ 8 ∧ siz e ≤ 64
  · rw [if_neg (by simpa using h1)]
    cases hr : right e <;> cases hv : vnames e <;> simp [h1]
  · rw [if_pos h1]
    exact ⟨fun h => absurd h (by decide), fun h => absurd ⟨h.1, h.2.1⟩ h1⟩
theorem dep_arg {e x : Ex} (h : x ∈ e.args) : dep x < dep e := by
  rw [dep_eq e]
  have : ∀ l : List Ex, x ∈ l → dep x ≤ deps l := by
    intro l
    induction l with
    | nil => intro h; cases h
    | cons y l ih =>
      intro h
      rw [deps]
      rcases List.mem_cons.1 h with rfl | h
      · omega
      · have := ih h; omega
  have := this e.args h
  omega
/-- The operands of a valid expression are valid. -/
theorem vE_arg {e x : Ex} (h : vE e = 0) (hx : x ∈ e.args) : vE x = 0 := by
  rw [vE_zero] at h ⊢
  have h1 := dep_arg hx
  have h2 := siz_args hx
  refine ⟨by omega, by omega, ?_⟩
  have := h.2.2
  rw [pre_all, Bool.and_eq_true, List.all_eq_true] at this
  exact this.2 x hx
theorem siz_fill (vs : List Vr) (n : Int) : ∀ e, (EM.pre e).all okN = true → siz (fill vs n e) = siz e ∧ dep (fill vs n e) = dep e := by
  refine ex_ind _ fun e ih hk => ?_
  rw [pre_all, Bool.and_eq_true, List.all_eq_true] at hk
  by_cases h4 : e.op = 4
  · rw [fill_var vs n h4]
    have ha : e.args = [] := by
      have hf := hk.1
      unfold okN at hf
      rw [fmd_eq] at hf
      simp only [Bool.and_eq_true, decide_eq_true_eq, h4] at hf
      have h0 := hf.1.1
      have h1 : opn 4 = 0 := by decide
      rw [h1] at h0
      exact List.eq_nil_of_length_eq_zero (by omega)
    rcases put_cases vs n e.s e with h | ⟨v, hv, ht, h⟩
    · rw [h]; exact ⟨rfl, rfl⟩
    · rw [h, siz_eq, siz_eq e, dep_eq, dep_eq e, ha]; exact ⟨rfl, rfl⟩
  · rw [fill_opr vs n h4, siz_eq, siz_eq e, dep_eq, dep_eq e]
    show sizs (e.args.map (fill vs n)) + 1 = _ ∧ deps (e.args.map (fill vs n)) + 1 = _
    have : ∀ l : List Ex, (∀ x ∈ l, siz (fill vs n x) = siz x ∧ dep (fill vs n x) = dep x) → sizs (l.map (fill vs n)) = sizs l ∧ deps (l.map (fill vs n)) = deps l := by
      intro l
      induction l with
      | nil => intro _; exact ⟨rfl, rfl⟩
      | cons x l ihl =>
        intro h
        have h1 := h x (by simp)
        have h2 := ihl fun y hy => h y (by simp [hy])
        rw [List.map_cons, sizs_cons, sizs_cons, deps, deps, h1.1, h1.2, h2.1, h2.2]
        exact ⟨rfl, rfl⟩
    have := this e.args fun x hx => ih x hx (hk.2 x hx)
    rw [this.1, this.2]
    exact ⟨rfl, rfl⟩
theorem ok_fill (vs : List Vr) (n : Int) (hn : 0 ≤ n ∧ n ≤ 255) : ∀ e, (EM.pre e).all okN = true → (EM.pre (fill vs n e)).all okN = true := by
  refine ex_ind _ fun e ih hk => ?_
  by_cases h4 : e.op = 4
  · rw [fill_var vs n h4]
    rcases put_cases vs n e.s e with h | ⟨v, hv, ht, h⟩
    · rw [h]; exact hk
    · rw [h, pre_all]
      simp only [Ex.args, List.all_nil, Bool.and_true]
      unfold okN nameB
      rw [fmd_eq]
      show ((decide ((0 : Int) = opn v.2) && (decide (0 ≤ n) && (decide (n ≤ most v.2) && (decide (v.2 = 4) || true)))) && (!decide (v.2 = 4) || varOk [])) = true
      have a1 : decide (0 ≤ n) = true := decide_eq_true hn.1
      have a2 : decide (n ≤ most v.2) = true := by
        apply decide_eq_true
        rcases ht with ht | ht | ht <;> rw [ht]
        · have : most 1 = 9223372036854775807 := by decide
          omega
        · have : most 2 = 1000000000000 := by decide
          omega
        · have : most 3 = 1000000 := by decide
          omega
      rw [a1, a2]
      rcases ht with ht | ht | ht <;> rw [ht] <;> rfl
  · rw [pre_all, Bool.and_eq_true, List.all_eq_true] at hk
    rw [fill_opr vs n h4, pre_all, Bool.and_eq_true]
    refine ⟨?_, ?_⟩
    · have := hk.1
      unfold okN nameB at this ⊢
      rw [fmd_eq] at this ⊢
      simp only [Ex.args, Ex.op, Ex.n, Ex.s, List.length_map] at this ⊢
      exact this
    · show (e.args.map (fill vs n)).all _ = true
      rw [List.all_map, List.all_eq_true]
      exact fun x hx => ih x hx (hk.2 x hx)
/-- A replaced expression is valid. -/
theorem vE_fill (vs : List Vr) (n : Int) (hn : 0 ≤ n ∧ n ≤ 255) (e : Ex) (h : vE e = 0) : vE (fill vs n e) = 0 := by
  rw [vE_zero] at h ⊢
  obtain ⟨h1, h2⟩ := siz_fill vs n e h.2.2
  rw [h1, h2]
  exact ⟨h.1, h.2.1, ok_fill vs n hn e h.2.2⟩
/-- P11.5. -/
theorem ofT_fill (vs : List Vr) (n : Int) (hn : 0 ≤ n ∧ n ≤ 255) (e : Ex) (h : (ofT e vs).2 = 0) : good (ofT e vs).1 = true ∧ ofT (fill vs n e) vs = ofT e vs := by
  unfold ofT at h ⊢
  by_cases hv : vE e = 0
  · rw [if_pos hv] at h ⊢
    rw [if_pos (vE_fill vs n hn e hv), ty_fill vs n e h]
    exact ⟨ty_good vs e h, rfl⟩
  · rw [if_neg hv] at h; exact absurd h hv
theorem ofT_ok {e : Ex} (vs : List Vr) (h : vE e = 0) : ofT e vs = ty vs e := by unfold ofT; rw [if_pos h]
end Go.Proofs.YtcnnkobiijhegaaDoor.YM
