/-
  Rates and percentages, plain.
-/
import Derived.Test.YtcnnkobiijhegaaDoorTM
namespace Go.Proofs.YtcnnkobiijhegaaDoor.TM
open Go Go.Lib WM

/-! ### Digits in some places -/
def pd : Nat → Nat → List UInt8
  | 0, _ => []
  | k + 1, n => pd k (n / 10) ++ [UInt8.ofNat (48 + n % 10)]
theorem pd_length (k : Nat) : ∀ n, (pd k n).length = k := by
  induction k with
  | zero => intro n; rfl
  | succ k ih => intro n; show (pd k (n / 10) ++ [_]).length = k + 1; rw [List.length_append, ih]; rfl
theorem dig_ofNat (n : Nat) : dig (UInt8.ofNat (48 + n % 10)) = true := by
  simp only [dig, decide_eq_true_eq]
  rw [u8n (n % 10) (by omega)]; omega
theorem pd_dig (k : Nat) : ∀ n, allDig (pd k n) = true := by
  induction k with
  | zero => intro n; rfl
  | succ k ih => intro n; show allDig (pd k (n / 10) ++ [_]) = true; rw [allDig_snoc, ih, dig_ofNat]; rfl
theorem dval_pd (k : Nat) : ∀ n, n < 10 ^ k → dval (pd k n) = n := by
  induction k with
  | zero => intro n h; show 0 = n; simp at h; omega
  | succ k ih =>
    intro n h
    show dval (pd k (n / 10) ++ [_]) = n
    rw [dval_snoc, ih (n / 10) (by rw [Nat.pow_succ] at h; omega), u8n (n % 10) (by omega)]; omega
theorem digit_back (c : UInt8) (h : dig c = true) : UInt8.ofNat (48 + (c.toNat - 48)) = c := by
  simp only [dig, decide_eq_true_eq] at h
  rw [show 48 + (c.toNat - 48) = c.toNat from by omega, UInt8.ofNat_toNat]
theorem pd_dval (k : Nat) : ∀ l : List UInt8, l.length = k → allDig l = true → pd k (dval l) = l := by
  induction k with
  | zero => intro l h _; rw [List.eq_nil_of_length_eq_zero h]; rfl
  | succ k ih =>
    intro l h ha
    have hl : l ≠ [] := by intro e; rw [e] at h; exact absurd h (by simp)
    obtain ⟨m, c, rfl⟩ : ∃ m c, l = m ++ [c] := ⟨l.dropLast, l.getLast hl, (List.dropLast_concat_getLast hl).symm⟩
    rw [allDig_snoc, Bool.and_eq_true] at ha
    obtain ⟨h1, h2⟩ := ha
    have hc : c.toNat - 48 < 10 := by simp only [dig, decide_eq_true_eq] at h2; omega
    rw [dval_snoc]
    show pd k ((dval m * 10 + (c.toNat - 48)) / 10) ++ [UInt8.ofNat (48 + (dval m * 10 + (c.toNat - 48)) % 10)] = m ++ [c]
    rw [show (dval m * 10 + (c.toNat - 48)) / 10 = dval m from by omega, show (dval m * 10 + (c.toNat - 48)) % 10 = c.toNat - 48 from by omega, digit_back c h2]
    rw [ih m (by rw [List.length_append] at h; simpa using h) h1]
theorem pd_cons (k : Nat) : ∀ n, pd (k + 1) n = UInt8.ofNat (48 + n / 10 ^ k % 10) :: pd k n := by
  induction k with
  | zero => intro n; show [] ++ [_] = _; simp [pd]
  | succ k ih =>
    intro n
    show pd (k + 1) (n / 10) ++ [UInt8.ofNat (48 + n % 10)] = _
    rw [ih, Nat.div_div_eq_div_mul, ← Nat.pow_succ']
    rfl
theorem dec_lead (k : Nat) : ∀ m, m < 10 ^ k → decDigits (10 ^ k + m) = 49 :: pd k m := by
  induction k with
  | zero => intro m h; simp at h; subst h; rw [dec_small (by decide)]; rfl
  | succ k ih =>
    intro m h
    have h1 : 1 ≤ 10 ^ k := Nat.one_le_pow _ _ (by decide)
    rw [dec_big (by rw [Nat.pow_succ]; omega), show (10 ^ (k + 1) + m) / 10 = 10 ^ k + m / 10 from by rw [Nat.pow_succ]; omega, ih (m / 10) (by rw [Nat.pow_succ] at h; omega)]
    rw [show (10 ^ (k + 1) + m) % 10 = m % 10 from by rw [Nat.pow_succ]; omega]
    rfl
theorem dec_pd4 (m : Nat) (h : m < 10000) : (decDigits (10000 + m)).drop 1 = pd 4 m := by
  rw [show (10000 : Nat) = 10 ^ 4 from rfl, dec_lead 4 m h]; rfl
/-- The number of digits of a number up to 100. -/
def wid (n : Nat) : Nat := if n < 10 then 1 else if n < 100 then 2 else 3
theorem dec_wid (n : Nat) (h : n ≤ 100) : pd (wid n) n = decDigits n := by
  unfold wid
  by_cases h1 : n < 10
  · rw [if_pos h1, dec_small h1]; show [] ++ [_] = _; rw [Nat.mod_eq_of_lt h1]; rfl
  · rw [if_neg h1]
    by_cases h2 : n < 100
    · rw [if_pos h2, dec_big h1, dec_small (by omega)]
      show ([] ++ [_]) ++ [_] = _
      rw [Nat.mod_eq_of_lt (by omega : n / 10 < 10)]; rfl
    · rw [if_neg h2]
      have : n = 100 := by omega
      subst this
      rw [dec_big (by decide), dec_big (by decide), dec_small (by decide)]; rfl

/-! ### Trailing zeros -/
theorem trim_app (l : List UInt8) (c : UInt8) : ∃ k, l = trimRightB l c ++ List.replicate k c := by
  refine ⟨(l.reverse.takeWhile (· == c)).length, ?_⟩
  have h1 : (l.reverse.takeWhile (· == c)) = List.replicate (l.reverse.takeWhile (· == c)).length c := by
    rw [List.eq_replicate_iff]
    refine ⟨rfl, fun b hb => ?_⟩
    have h2 : ∀ (m : List UInt8), b ∈ m.takeWhile (· == c) → b = c := by
      intro m
      induction m with
      | nil => intro h; exact absurd h (by simp)
      | cons a m ih =>
        rw [List.takeWhile_cons]
        split
        · rename_i ha
          intro h
          rcases List.mem_cons.1 h with e | e
          · rw [e]; exact eq_of_beq ha
          · exact ih e
        · intro h; exact absurd h (by simp)
    exact h2 _ hb
  have h3 := List.takeWhile_append_dropWhile (p := (· == c)) (l := l.reverse)
  have h4 : l = (l.reverse.dropWhile (· == c)).reverse ++ (l.reverse.takeWhile (· == c)).reverse := by
    rw [← List.reverse_append, h3, List.reverse_reverse]
  unfold trimRightB
  rw [← List.reverse_replicate, ← h1]
  exact h4
theorem trim_last (l : List UInt8) (c : UInt8) : (trimRightB l c).getLast? ≠ some c := by
  unfold trimRightB
  rw [List.getLast?_reverse]
  intro h
  have key : ∀ m : List UInt8, (m.dropWhile (· == c)).head? ≠ some c := by
    intro m
    induction m with
    | nil => simp
    | cons a m ih =>
      rw [List.dropWhile_cons]
      split
      · exact ih
      · rename_i ha
        intro e
        simp only [List.head?_cons, Option.some.injEq] at e
        exact ha (by rw [e]; exact beq_self_eq_true c)
  exact key _ h
theorem trim_back (f : List UInt8) (c : UInt8) (k : Nat) (h : f.getLast? ≠ some c) : trimRightB (f ++ List.replicate k c) c = f := by
  unfold trimRightB
  rw [List.reverse_append, List.reverse_replicate]
  have h1 : (List.replicate k c ++ f.reverse).dropWhile (· == c) = f.reverse := by
    induction k with
    | zero =>
      rw [List.replicate_zero, List.nil_append]
      rw [← List.head?_reverse] at h
      generalize f.reverse = g at h
      cases g with
      | nil => rfl
      | cons a g =>
        rw [List.dropWhile_cons, if_neg]
        intro e
        exact h (by rw [List.head?_cons, eq_of_beq e])
    | succ k ih => rw [List.replicate_succ, List.cons_append, List.dropWhile_cons, if_pos (beq_self_eq_true c), ih]
  rw [h1, List.reverse_reverse]

/-! ### Percentages -/
def numl (l : List UInt8) : Bool := allDig l && shortB l false
def zs (k : Nat) : List UInt8 := List.replicate k 48
def tl (f : List UInt8) : List UInt8 := if f = [] then [] else 46 :: f
def deci (f : List UInt8) : Bool := decide (f.length ≤ 4) && (!f.isEmpty && allDig f) && f.getLast? != some 48
def npt (c : UInt8) : Bool := c != 46
def vl (l : List UInt8) : List UInt8 := l.take (l.length - 1)
def befo (v : List UInt8) : List UInt8 := v.takeWhile npt
def beh (v : List UInt8) : List UInt8 := (v.dropWhile npt).drop 1
def ptd (v : List UInt8) : Bool := decide (sp npt v < v.length)
def rOk (l : List UInt8) : Bool := hasSuffix l [37] && (numl (befo (vl l)) && (!ptd (vl l) || deci (beh (vl l))))
def rTx (l : List UInt8) : List UInt8 := befo (vl l) ++ beh (vl l) ++ zs (4 - (beh (vl l)).length)
def rN (l : List UInt8) : Nat := dval (rTx l)
def rE (l : List UInt8) : Int := if rOk l = true then (if rN l ≤ 1000000 then 0 else 1) else 2
def rV (l : List UInt8) : Nat := if rE l = 0 then rN l else 0
def fr (m : Nat) : List UInt8 := trimRightB (pd 4 m) 48
def pct (n : Nat) : List UInt8 := decDigits (n / 10000) ++ tl (fr (n % 10000)) ++ [37]
/-- A number, and what may stand behind its point. -/
def Sh (d f : List UInt8) : Prop := numl d = true ∧ (f = [] ∨ deci f = true)
theorem numl_parts {d : List UInt8} (h : numl d = true) : allDig d = true ∧ shortB d false = true := by
  unfold numl at h; rwa [Bool.and_eq_true] at h
theorem deci_parts {f : List UInt8} (h : deci f = true) : f.length ≤ 4 ∧ f ≠ [] ∧ allDig f = true ∧ f.getLast? ≠ some 48 := by
  unfold deci at h
  rw [Bool.and_eq_true, Bool.and_eq_true, Bool.and_eq_true, decide_eq_true_eq, bne_iff_ne] at h
  refine ⟨h.1.1, ?_, h.1.2.2, h.2⟩
  intro e; rw [e] at h; exact absurd h.1.2.1 (by decide)
theorem sh_parts {d f : List UInt8} (h : Sh d f) : allDig d = true ∧ shortB d false = true ∧ d ≠ [] ∧ f.length ≤ 4 ∧ allDig f = true ∧ f.getLast? ≠ some 48 := by
  obtain ⟨h1, h2⟩ := numl_parts h.1
  refine ⟨h1, h2, short_ne h2, ?_⟩
  rcases h.2 with e | e
  · subst e; exact ⟨by decide, rfl, by simp⟩
  · obtain ⟨a, _, b, c⟩ := deci_parts e
    exact ⟨a, b, c⟩
theorem dig_npt (c : UInt8) (h : dig c = true) : npt c = true := by
  have := u8_all (fun c => !dig c || npt c) (by decide +kernel) c
  rw [h] at this; simpa using this
theorem tw_all (p : UInt8 → Bool) (l m : List UInt8) (h : l.all p = true) : (l ++ m).takeWhile p = l ++ m.takeWhile p := by
  induction l with
  | nil => rfl
  | cons c l ih =>
    rw [List.all_cons, Bool.and_eq_true] at h
    rw [List.cons_append, List.takeWhile_cons, if_pos h.1, ih h.2]; rfl
theorem dw_all (p : UInt8 → Bool) (l m : List UInt8) (h : l.all p = true) : (l ++ m).dropWhile p = m.dropWhile p := by
  induction l with
  | nil => rfl
  | cons c l ih =>
    rw [List.all_cons, Bool.and_eq_true] at h
    rw [List.cons_append, List.dropWhile_cons, if_pos h.1, ih h.2]
theorem all_npt {d : List UInt8} (h : allDig d = true) : d.all npt = true := by
  rw [allDig, List.all_eq_true] at h
  rw [List.all_eq_true]
  exact fun c hc => dig_npt c (h c hc)
theorem befo_tl {d : List UInt8} (f : List UInt8) (h : allDig d = true) : befo (d ++ tl f) = d ∧ beh (d ++ tl f) = f ∧ ptd (d ++ tl f) = !f.isEmpty := by
  have h1 := all_npt h
  unfold befo beh ptd sp
  rw [tw_all _ _ _ h1, dw_all _ _ _ h1]
  unfold tl
  by_cases hf : f = []
  · subst hf; simp
  · rw [if_neg hf]
    have h2 : (46 :: f).takeWhile npt = [] := by rw [List.takeWhile_cons, if_neg (by decide)]
    have h3 : (46 :: f).dropWhile npt = 46 :: f := by rw [List.dropWhile_cons, if_neg (by decide)]
    rw [h2, h3]
    refine ⟨by simp, rfl, ?_⟩
    have : f.isEmpty = false := by cases f with | nil => exact absurd rfl hf | cons a f => rfl
    rw [this]; simp
theorem vl_snoc (v : List UInt8) (c : UInt8) : vl (v ++ [c]) = v := by simp [vl]
theorem suf_snoc (v : List UInt8) : hasSuffix (v ++ [37]) [37] = true := by
  unfold hasSuffix
  rw [List.isSuffixOf_iff_suffix]
  exact List.suffix_append v [37]
theorem suf_yes {l : List UInt8} (h : hasSuffix l [37] = true) : l = vl l ++ [37] := by
  unfold hasSuffix at h
  rw [List.isSuffixOf_iff_suffix] at h
  obtain ⟨v, e⟩ := h
  rw [← e, vl_snoc]
theorem sh_ok {d f : List UInt8} (h : Sh d f) : rOk (d ++ tl f ++ [37]) = true ∧ rTx (d ++ tl f ++ [37]) = d ++ f ++ zs (4 - f.length) := by
  obtain ⟨h1, h2, _⟩ := sh_parts h
  obtain ⟨a, b, c⟩ := befo_tl f h1
  unfold rOk rTx
  rw [vl_snoc, suf_snoc, a, b, c, h.1]
  refine ⟨?_, rfl⟩
  rcases h.2 with e | e
  · subst e; rfl
  · rw [e]; simp
theorem ok_sh {l : List UInt8} (h : rOk l = true) : ∃ d f, Sh d f ∧ l = d ++ tl f ++ [37] := by
  unfold rOk at h
  rw [Bool.and_eq_true, Bool.and_eq_true] at h
  obtain ⟨h1, h2, h3⟩ := h
  have e := suf_yes h1
  generalize vl l = v at *
  have e2 : v = befo v ++ v.dropWhile npt := (List.takeWhile_append_dropWhile).symm
  cases hp : ptd v
  · refine ⟨befo v, [], ⟨h2, Or.inl rfl⟩, ?_⟩
    unfold ptd at hp
    rw [decide_eq_false_iff_not] at hp
    have h4 : v.dropWhile npt = [] := by rw [← drop_sp, List.drop_eq_nil_iff]; omega
    rw [e]
    show v ++ [37] = befo v ++ [] ++ [37]
    rw [List.append_nil]
    rw [h4, List.append_nil] at e2
    rw [← e2]
  · rw [hp, Bool.not_true, Bool.false_or] at h3
    obtain ⟨_, hne, _⟩ := deci_parts h3
    refine ⟨befo v, beh v, ⟨h2, Or.inr h3⟩, ?_⟩
    rw [e]
    have h5 : v.dropWhile npt = 46 :: beh v := by
      unfold ptd at hp
      rw [decide_eq_true_eq] at hp
      have h6 := sp_stop npt v hp
      have h7 : v.dropWhile npt = v[sp npt v] :: v.drop (sp npt v + 1) := by rw [← drop_sp]; exact List.drop_eq_getElem_cons hp
      have h8 : v[sp npt v] = 46 := by
        generalize v[sp npt v] = q at h6
        unfold npt at h6
        simpa using h6
      unfold beh
      rw [h7, h8]; rfl
    unfold tl
    rw [if_neg hne, ← h5, ← e2]
theorem rE_sh {l : List UInt8} (h : rE l ≠ 2) : ∃ d f, Sh d f ∧ l = d ++ tl f ++ [37] ∧ rN l = dval (d ++ f ++ zs (4 - f.length)) := by
  have h1 : rOk l = true := by
    cases hb : rOk l
    · exact absurd (by unfold rE; rw [hb]; rfl) h
    · rfl
  obtain ⟨d, f, hs, e⟩ := ok_sh h1
  refine ⟨d, f, hs, e, ?_⟩
  unfold rN
  rw [e, (sh_ok hs).2]
theorem zs_dig (k : Nat) : allDig (zs k) = true := by
  rw [allDig, List.all_eq_true]
  intro c hc
  rw [(List.mem_replicate.1 hc).2]; decide
theorem rE_of {d f : List UInt8} (h : Sh d f) : rE (d ++ tl f ++ [37]) = if dval (d ++ f ++ zs (4 - f.length)) ≤ 1000000 then 0 else 1 := by
  unfold rE rN
  rw [(sh_ok h).1, (sh_ok h).2, if_pos rfl]
theorem four {d f : List UInt8} (h : Sh d f) : dval (d ++ f ++ zs (4 - f.length)) = dval d * 10000 + dval (f ++ zs (4 - f.length)) ∧ dval (f ++ zs (4 - f.length)) < 10000 ∧ (f ++ zs (4 - f.length)).length = 4 ∧ allDig (f ++ zs (4 - f.length)) = true := by
  obtain ⟨_, _, _, h4, h5, _⟩ := sh_parts h
  have hl : (f ++ zs (4 - f.length)).length = 4 := by rw [List.length_append]; unfold zs; rw [List.length_replicate]; omega
  have ha : allDig (f ++ zs (4 - f.length)) = true := by rw [allDig_app, h5, zs_dig]; rfl
  have hv := dval_lt _ ha
  rw [hl] at hv
  refine ⟨?_, hv, hl, ha⟩
  rw [List.append_assoc]
  show dvalA 0 (d ++ _) = _
  rw [dvalA_app, dvalA_eq, hl]; rfl
theorem fr_parts (m : Nat) : (fr m = [] ∨ deci (fr m) = true) ∧ fr m ++ zs (4 - (fr m).length) = pd 4 m := by
  obtain ⟨k, hk⟩ := trim_app (pd 4 m) 48
  have hlast := trim_last (pd 4 m) 48
  have hl := pd_length 4 m
  have hd := pd_dig 4 m
  have e : fr m = trimRightB (pd 4 m) 48 := rfl
  rw [← e] at hk hlast
  have h1 := hl
  rw [hk, List.length_append, List.length_replicate] at h1
  have hk4 : k = 4 - (fr m).length := by omega
  rw [hk4] at hk
  refine ⟨?_, hk.symm⟩
  by_cases hf : fr m = []
  · exact Or.inl hf
  · refine Or.inr ?_
    rw [hk, allDig_app, Bool.and_eq_true] at hd
    unfold deci
    have h2 : (fr m).isEmpty = false := by cases h : fr m with | nil => exact absurd h hf | cons a b => rfl
    rw [h2, hd.1, decide_eq_true (by omega), bne_iff_ne.2 hlast]; rfl
theorem numl_dec (n : Nat) : numl (decDigits n) = true := by unfold numl; rw [allDig_dec, short_dec]; rfl
theorem rate_pct (n : Nat) (h : n ≤ 1000000) : rE (pct n) = 0 ∧ rV (pct n) = n := by
  obtain ⟨h1, h2⟩ := fr_parts (n % 10000)
  have hs : Sh (decDigits (n / 10000)) (fr (n % 10000)) := ⟨numl_dec _, h1⟩
  have hv : dval (decDigits (n / 10000) ++ fr (n % 10000) ++ zs (4 - (fr (n % 10000)).length)) = n := by
    rw [(four hs).1, h2, dval_dec, dval_pd 4 _ (Nat.mod_lt _ (by decide))]; omega
  have h3 : rE (pct n) = 0 := by
    unfold pct
    rw [rE_of hs, hv, if_pos h]
  refine ⟨h3, ?_⟩
  unfold rV
  rw [if_pos h3]
  unfold rN pct
  rw [(sh_ok hs).2, hv]
theorem pct_rate (l : List UInt8) (h : rE l = 0) : pct (rV l) = l ∧ rV l ≤ 1000000 := by
  obtain ⟨d, f, hs, e, hN⟩ := rE_sh (l := l) (by rw [h]; decide)
  obtain ⟨f1, f2, f3, f4⟩ := four hs
  obtain ⟨p1, p2, _, p4, p5, p6⟩ := sh_parts hs
  have hle : rN l ≤ 1000000 := by
    have := rE_of hs
    rw [← e, h, ← hN] at this
    by_cases hh : rN l ≤ 1000000
    · exact hh
    · rw [if_neg hh] at this; exact absurd this (by decide)
  unfold rV
  rw [if_pos h]
  refine ⟨?_, hle⟩
  rw [hN, f1]
  unfold pct
  rw [show (dval d * 10000 + dval (f ++ zs (4 - f.length))) / 10000 = dval d from by omega, show (dval d * 10000 + dval (f ++ zs (4 - f.length))) % 10000 = dval (f ++ zs (4 - f.length)) from by omega]
  rw [dec_dval d p1 p2]
  unfold fr
  rw [pd_dval 4 _ f3 f4]
  unfold zs
  rw [trim_back f 48 _ p6, e]

/-! ### The document's form -/
def pln (l : List UInt8) : Nat := if 1 < sp dig l ∧ l.head? = some 48 then 0 else sp dig l
def fm (m : List UInt8) : Bool := m.isEmpty || (decide (2 ≤ m.length) && (decide (m.length ≤ 5) && (m.head? == some 46 && (m.getLast? != some 48 && m.tail.all dig))))
def frm (l : List UInt8) : Bool := decide (pln l ≠ 0) && (l.getLast? == some 37 && fm ((vl l).drop (pln l)))
theorem pln_numl (d m : List UInt8) (h : numl d = true) (hm : ∀ c, m.head? = some c → dig c = false) : pln (d ++ m) = d.length := by
  obtain ⟨h1, h2⟩ := numl_parts h
  have h3 : sp dig (d ++ m) = d.length := by
    unfold sp
    rw [tw_all dig d m h1, List.length_append]
    have : m.takeWhile dig = [] := by
      cases m with
      | nil => rfl
      | cons c m => rw [List.takeWhile_cons, hm c rfl]; rfl
    rw [this]; rfl
  unfold pln
  rw [h3, if_neg]
  rintro ⟨h4, h5⟩
  cases d with
  | nil => exact absurd rfl (short_ne h2)
  | cons c t =>
    have h6 : ((c != 48) || (t.isEmpty && !false)) = true := h2
    simp only [List.cons_append, List.head?_cons, Option.some.injEq] at h5
    subst h5
    cases t with
    | nil => simp at h4
    | cons a t => simp at h6
theorem pln_all {l : List UInt8} (h : pln l ≠ 0) : numl (l.takeWhile dig) = true ∧ pln l = sp dig l := by
  unfold pln at h
  by_cases hc : 1 < sp dig l ∧ l.head? = some 48
  · rw [if_pos hc] at h; exact absurd rfl h
  · rw [if_neg hc] at h
    refine ⟨?_, by unfold pln; rw [if_neg hc]⟩
    unfold numl
    rw [Bool.and_eq_true]
    constructor
    · rw [allDig, List.all_eq_true]
      intro c hc
      have key : ∀ m : List UInt8, c ∈ m.takeWhile dig → dig c = true := by
        intro m
        induction m with
        | nil => intro h; exact absurd h (by simp)
        | cons a m ih =>
          rw [List.takeWhile_cons]
          split
          · rename_i ha
            intro h
            rcases List.mem_cons.1 h with e | e
            · rw [e]; exact ha
            · exact ih e
          · intro h; exact absurd h (by simp)
      exact key l hc
    · unfold sp at h hc
      cases l with
      | nil => exact absurd rfl h
      | cons a l =>
        rw [List.takeWhile_cons] at h hc ⊢
        cases ha : dig a
        · rw [ha] at h; exact absurd rfl h
        · rw [ha] at hc
          rw [if_pos rfl]
          show ((a != 48) || ((l.takeWhile dig).isEmpty && !false)) = true
          by_cases e : a = 48
          · have : (l.takeWhile dig) = [] := by
              cases hq : l.takeWhile dig with
              | nil => rfl
              | cons b q =>
                exfalso
                refine hc ⟨?_, by rw [e]; rfl⟩
                rw [if_pos rfl, hq]; simp
            rw [this]; simp
          · have : (a != 48) = true := by rw [bne_iff_ne]; exact e
            rw [this]; rfl
theorem numl_pln (l : List UInt8) : numl l = (decide (pln l = l.length) && !l.isEmpty) := by
  cases h : numl l
  · symm
    cases hl : l.isEmpty
    · rw [Bool.not_false, Bool.and_true, decide_eq_false_iff_not]
      intro e
      have hl0 : l.length ≠ 0 := by cases l with | nil => exact absurd hl (by decide) | cons a l => simp
      obtain ⟨h1, h2⟩ := pln_all (l := l) (by rw [e]; exact hl0)
      have : l.takeWhile dig = l := by rw [← take_sp, ← h2, e]; exact List.take_length
      rw [this, h] at h1; exact absurd h1 (by decide)
    · simp
  · have h1 := pln_numl l [] h (fun c hc => absurd hc (by simp))
    rw [List.append_nil] at h1
    rw [h1]
    have : l.isEmpty = false := by cases l with | nil => exact absurd h (by decide) | cons a l => rfl
    rw [this]; simp
theorem frm_ok (l : List UInt8) : frm l = rOk l := by
  cases h : rOk l
  · cases hf : frm l
    · rfl
    · exfalso
      unfold frm at hf
      rw [Bool.and_eq_true, Bool.and_eq_true, decide_eq_true_eq, beq_iff_eq] at hf
      obtain ⟨h1, h2, h3⟩ := hf
      obtain ⟨q1, q2⟩ := pln_all h1
      have hl : l ≠ [] := by intro e; rw [e] at h2; exact absurd h2 (by simp)
      have e37 : l = vl l ++ [37] := by
        have h4 := (List.dropLast_concat_getLast hl).symm
        rw [List.getLast?_eq_some_getLast hl] at h2
        rw [Option.some.inj h2, List.dropLast_eq_take] at h4
        exact h4
      have hd : (vl l).take (pln l) = l.takeWhile dig ∧ pln l ≤ (vl l).length := by
        have h5 : pln l < l.length := by
          rw [q2]
          have h6 := sp_le dig l
          by_cases h7 : sp dig l < l.length
          · exact h7
          · exfalso
            have h8 : sp dig l = l.length := by omega
            have h9 := sp_lt dig l (l.length - 1) (by rw [h8]; have : l.length ≠ 0 := fun e => hl (List.eq_nil_of_length_eq_zero e); omega)
            obtain ⟨p1, p2⟩ := h9
            rw [← List.getLast_eq_getElem hl] at p2
            rw [List.getLast?_eq_some_getLast hl] at h2
            rw [Option.some.inj h2] at p2
            exact absurd p2 (by decide)
        have h6 : (vl l).length = l.length - 1 := by unfold vl; rw [List.length_take]; omega
        refine ⟨?_, by omega⟩
        unfold vl
        rw [List.take_take, Nat.min_eq_left (by omega), q2, take_sp]
      have e2 : vl l = l.takeWhile dig ++ (vl l).drop (pln l) := by rw [← hd.1, List.take_append_drop]
      generalize hm : (vl l).drop (pln l) = m at *
      unfold fm at h3
      by_cases hmE : m = []
      · have hs : Sh (l.takeWhile dig) [] := ⟨q1, Or.inl rfl⟩
        have := (sh_ok hs).1
        rw [show l.takeWhile dig ++ tl [] ++ [37] = l from by rw [hmE, List.append_nil] at e2; rw [← e2]; show vl l ++ [] ++ [37] = l; rw [List.append_nil]; exact e37.symm] at this
        · rw [h] at this; exact absurd this (by decide)
      · have hmI : m.isEmpty = false := by cases m with | nil => exact absurd rfl hmE | cons a m => rfl
        rw [hmI, Bool.false_or, Bool.and_eq_true, Bool.and_eq_true, Bool.and_eq_true, Bool.and_eq_true, decide_eq_true_eq, decide_eq_true_eq, beq_iff_eq, bne_iff_ne] at h3
        obtain ⟨a1, a2, a3, a4, a5⟩ := h3
        have e3 : m = 46 :: m.tail := by
          cases m with
          | nil => exact absurd rfl hmE
          | cons c m => simp only [List.head?_cons, Option.some.injEq] at a3; rw [a3]; rfl
        have htl : m.tail ≠ [] := by intro e; rw [e3, e] at a1; exact absurd a1 (by decide)
        have hs : Sh (l.takeWhile dig) m.tail := by
          refine ⟨q1, Or.inr ?_⟩
          unfold deci
          have b1 : m.tail.length ≤ 4 := by rw [List.length_tail]; omega
          have b2 : m.tail.isEmpty = false := by cases hh : m.tail with | nil => exact absurd hh htl | cons a b => rfl
          have b3 : m.tail.getLast? ≠ some 48 := by
            rw [e3] at a4
            cases hh : m.tail with
            | nil => exact absurd hh htl
            | cons a b => rw [hh] at a4; simpa [List.getLast?_cons_cons] using a4
          rw [decide_eq_true b1, b2, bne_iff_ne.2 b3]
          show (true && (!false && m.tail.all dig) && true) = true
          rw [a5]; rfl
        have := (sh_ok hs).1
        have e4 : tl m.tail = m := by unfold tl; rw [if_neg htl, ← e3]
        rw [e4, ← e2, ← e37, h] at this
        exact absurd this (by decide)
  · obtain ⟨d, f, hs, e⟩ := ok_sh h
    obtain ⟨p1, p2, p3, p4, p5, p6⟩ := sh_parts hs
    have hp : pln l = d.length := by
      rw [e, List.append_assoc]
      refine pln_numl d _ hs.1 fun c hc => ?_
      unfold tl at hc
      by_cases hf : f = []
      · rw [if_pos hf] at hc
        simp only [List.nil_append, List.head?_cons, Option.some.injEq] at hc
        subst hc; decide
      · rw [if_neg hf] at hc
        simp only [List.cons_append, List.head?_cons, Option.some.injEq] at hc
        subst hc; decide
    unfold frm
    rw [hp]
    have hv : vl l = d ++ tl f := by rw [e, vl_snoc]
    rw [hv, List.drop_left, show l.getLast? = some 37 from by rw [e]; simp]
    have hd0 : d.length ≠ 0 := fun e => p3 (List.eq_nil_of_length_eq_zero e)
    rw [decide_eq_true hd0]
    show (true && (true && fm (tl f))) = true
    unfold fm tl
    by_cases hf : f = []
    · rw [if_pos hf]; rfl
    · rw [if_neg hf]
      have g1 : f.length ≠ 0 := fun e => hf (List.eq_nil_of_length_eq_zero e)
      have g2 : (46 :: f).getLast? ≠ some 48 := by
        cases f with
        | nil => exact absurd rfl hf
        | cons a f => rwa [List.getLast?_cons_cons]
      have g3 : (46 :: f).isEmpty = false := rfl
      rw [g3, decide_eq_true (by rw [List.length_cons]; omega), decide_eq_true (by rw [List.length_cons]; omega), bne_iff_ne.2 g2]
      show (true && (false || (true && (true && (true && (true && allDig f)))))) = true
      rw [p5]; rfl
end Go.Proofs.YtcnnkobiijhegaaDoor.TM
