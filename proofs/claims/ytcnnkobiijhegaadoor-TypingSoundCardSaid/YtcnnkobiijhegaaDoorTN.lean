/-
  What the document's own tokens want besides, plain: great numbers, a percentage's digits one by one, whole texts.
-/
import Derived.Test.YtcnnkobiijhegaaDoorTL
namespace Go.Proofs.YtcnnkobiijhegaaDoor.TM
open Go Go.Lib WM

/-! ### Numbers above the greatest int -/
theorem dval_cons (c : UInt8) (l : List UInt8) : dval (c :: l) = (c.toNat - 48) * 10 ^ l.length + dval l := by
  have e : dval (c :: l) = dvalA (0 * 10 + (c.toNat - 48)) l := rfl
  rw [e, dvalA_eq, Nat.zero_mul, Nat.zero_add]
theorem dig_bounds {c : UInt8} (h : dig c = true) : 48 ≤ c.toNat ∧ c.toNat ≤ 57 := by
  simp only [dig, decide_eq_true_eq] at h; omega
theorem cmp_digits : ∀ (l m : List UInt8), l.length = m.length → allDig l = true → allDig m = true → Op.bytesLess l m = decide (dval l < dval m)
  | [], [], _, _, _ => rfl
  | [], _ :: _, h, _, _ => absurd h (by simp)
  | _ :: _, [], h, _, _ => absurd h (by simp)
  | a :: l, b :: m, h, ha, hb => by
    have hl : l.length = m.length := by simpa using h
    have hda : dig a = true ∧ allDig l = true := by simpa [allDig] using ha
    have hdb : dig b = true ∧ allDig m = true := by simpa [allDig] using hb
    have ih := cmp_digits l m hl hda.2 hdb.2
    have la := dval_lt l hda.2
    have lb := dval_lt m hdb.2
    have ba := dig_bounds hda.1
    have bb := dig_bounds hdb.1
    have e : Op.bytesLess (a :: l) (b :: m) = (decide (a < b) || (a == b && Op.bytesLess l m)) := rfl
    rw [e, ih, dval_cons, dval_cons, hl]
    rw [hl] at la
    generalize 10 ^ m.length = T at *
    generalize dval l = x at *
    generalize dval m = y at *
    by_cases hab : a = b
    · subst hab
      have h1 : decide (a < a) = false := by rw [decide_eq_false_iff_not]; exact UInt8.lt_irrefl a
      rw [h1]
      simp
    · have h2 : (a == b) = false := by rw [beq_eq_false_iff_ne]; exact hab
      have h3 : a.toNat ≠ b.toNat := fun e => hab (UInt8.toNat_inj.1 e)
      rw [h2, Bool.false_and, Bool.or_false]
      by_cases hlt : a.toNat < b.toNat
      · have h4 : a < b := UInt8.lt_iff_toNat_lt.2 hlt
        rw [decide_eq_true h4]
        symm
        rw [decide_eq_true_eq]
        have h5 : (a.toNat - 48 + 1) * T ≤ (b.toNat - 48) * T := Nat.mul_le_mul_right _ (by omega)
        rw [Nat.add_mul, Nat.one_mul] at h5
        omega
      · have h4 : ¬ a < b := fun h => hlt (UInt8.lt_iff_toNat_lt.1 h)
        rw [decide_eq_false h4]
        symm
        rw [decide_eq_false_iff_not]
        have h5 : (b.toNat - 48 + 1) * T ≤ (a.toNat - 48) * T := Nat.mul_le_mul_right _ (by omega)
        rw [Nat.add_mul, Nat.one_mul] at h5
        omega
def mst : List UInt8 := [57, 50, 50, 51, 51, 55, 50, 48, 51, 54, 56, 53, 52, 55, 55, 53, 56, 48, 55]
theorem mst_val : dval mst = 9223372036854775807 := by decide +kernel
def grt (l : List UInt8) : Bool := decide (19 < l.length) || (decide (l.length = 19) && Op.bytesLess mst l)
theorem grt_eq {l : List UInt8} (h : numl l = true) : grt l = decide (9223372036854775807 < dval l) := by
  obtain ⟨ha, hs⟩ := numl_parts h
  unfold grt
  by_cases h1 : 19 < l.length
  · rw [decide_eq_true h1, Bool.true_or]
    symm
    rw [decide_eq_true_eq]
    cases l with
    | nil => exact absurd h1 (by simp)
    | cons c t =>
      have h2 : ((c != 48) || (t.isEmpty && !false)) = true := hs
      have ht : t.isEmpty = false := by
        cases t with
        | nil => simp at h1
        | cons d t => rfl
      rw [ht] at h2
      have hc : c ≠ 48 := by simpa using h2
      have hd : dig c = true := by simp only [allDig, List.all_cons, Bool.and_eq_true] at ha; exact ha.1
      have hb := dig_bounds hd
      have hc2 : c.toNat ≠ 48 := fun e => hc (UInt8.toNat_inj.1 e)
      rw [dval_cons]
      have h3 : 10 ^ 19 ≤ 10 ^ t.length := Nat.pow_le_pow_right (by decide) (by rw [List.length_cons] at h1; omega)
      have h4 : 1 * 10 ^ t.length ≤ (c.toNat - 48) * 10 ^ t.length := Nat.mul_le_mul_right _ (by omega)
      rw [Nat.one_mul] at h4
      have h5 : (10 : Nat) ^ 19 = 10000000000000000000 := by decide
      omega
  · rw [decide_eq_false h1, Bool.false_or]
    by_cases h2 : l.length = 19
    · rw [decide_eq_true h2, Bool.true_and, cmp_digits mst l (by rw [h2]; rfl) (by decide) ha, mst_val]
    · rw [decide_eq_false h2, Bool.false_and]
      symm
      rw [decide_eq_false_iff_not]
      have h3 := dval_lt l ha
      have h4 : 10 ^ l.length ≤ 10 ^ 18 := Nat.pow_le_pow_right (by decide) (by omega)
      have h5 : (10 : Nat) ^ 18 = 1000000000000000000 := by decide
      omega

/-! ### A percentage's digits, one by one -/
theorem dval_pre (P R : List UInt8) : dval P ≤ dval (P ++ R) := by
  have h : dval (P ++ R) = dvalA (dval P) R := dvalA_app 0 P R
  rw [h, dvalA_eq]
  have : 1 ≤ 10 ^ R.length := Nat.one_le_pow _ _ (by decide)
  have := Nat.mul_le_mul_left (dval P) this
  omega
/-- The digits that are still to be read, from the byte i on. -/
def dleft (v : List UInt8) (i : Nat) : List UInt8 := (v.drop i).filter dig
theorem dleft_dig (v : List UInt8) (i : Nat) (hi : i < v.length) (h : dig v[i] = true) : dleft v i = v[i] :: dleft v (i + 1) := by
  unfold dleft
  rw [List.drop_eq_getElem_cons hi, List.filter_cons, if_pos h]
theorem dleft_other (v : List UInt8) (i : Nat) (hi : i < v.length) (h : dig v[i] = false) : dleft v i = dleft v (i + 1) := by
  unfold dleft
  rw [List.drop_eq_getElem_cons hi, List.filter_cons, if_neg (by rw [h]; decide)]
theorem dleft_end (v : List UInt8) (i : Nat) (hi : v.length ≤ i) : dleft v i = [] := by
  unfold dleft
  rw [List.drop_eq_nil_of_le hi]; rfl
theorem filter_all {d : List UInt8} (h : allDig d = true) : d.filter dig = d := by
  unfold allDig at h
  rw [List.filter_eq_self]
  rw [List.all_eq_true] at h
  exact h
theorem dleft_zero {d f : List UInt8} (h : Sh d f) : dleft (d ++ tl f) 0 = d ++ f := by
  obtain ⟨p1, _, _, _, p5, _⟩ := sh_parts h
  unfold dleft
  rw [List.drop_zero, List.filter_append, filter_all p1]
  congr 1
  unfold tl
  split
  · rename_i e; rw [e]; rfl
  · rw [List.filter_cons, if_neg (by decide), filter_all p5]
/-- Which bytes of a percentage are digits. -/
theorem sh_dig {d f : List UInt8} (h : Sh d f) (i : Nat) (hi : i < (d ++ tl f).length) : dig (d ++ tl f)[i] = decide (i ≠ d.length) := by
  obtain ⟨p1, _, _, _, p5, _⟩ := sh_parts h
  by_cases h1 : i < d.length
  · rw [List.getElem_append_left h1, decide_eq_true (by omega)]
    unfold allDig at p1
    rw [List.all_eq_true] at p1
    exact p1 _ (List.getElem_mem h1)
  · rw [List.getElem_append_right (by omega)]
    rw [List.length_append] at hi
    have key : ∀ (y : List UInt8), y = tl f → ∀ (j : Nat) (hj : j < y.length), dig y[j] = decide (j ≠ 0) := by
      intro y hy j hj
      unfold tl at hy
      split at hy
      · subst hy; exact absurd hj (by simp)
      · subst hy
        cases j with
        | zero => rfl
        | succ j =>
          rw [List.getElem_cons_succ, decide_eq_true (by omega)]
          unfold allDig at p5
          rw [List.all_eq_true] at p5
          exact p5 _ (List.getElem_mem _)
    rw [key (tl f) rfl (i - d.length) (by omega)]
    by_cases h2 : i = d.length
    · rw [decide_eq_false (by omega), decide_eq_false (by omega)]
    · rw [decide_eq_true (by omega), decide_eq_true (by omega)]
/-- What the loop over a percentage's bytes keeps. -/
def RSt (d f : List UInt8) (i n q : Nat) : Prop := ∃ P : List UInt8, P ++ dleft (d ++ tl f) i = d ++ f ∧ n = dval P ∧ n ≤ 1000000 ∧ P.length = (if i ≤ d.length then i else i - 1) ∧ q = P.length - d.length
theorem rst_start {d f : List UInt8} (h : Sh d f) : RSt d f 0 0 0 := ⟨[], by rw [dleft_zero h]; rfl, rfl, by omega, by simp, by simp⟩
theorem rst_skip {d f : List UInt8} {i n q : Nat} (h : Sh d f) (hs : RSt d f i n q) (hi : i < (d ++ tl f).length) (hd : dig (d ++ tl f)[i] = false) : RSt d f (i + 1) n q := by
  obtain ⟨P, h1, h2, h3, h4, h5⟩ := hs
  have h6 := sh_dig h i hi
  rw [hd] at h6
  have h7 : i = d.length := by
    have := h6.symm
    rw [decide_eq_false_iff_not] at this
    omega
  refine ⟨P, by rw [← dleft_other _ i hi hd]; exact h1, h2, h3, ?_, h5⟩
  rw [h4, if_pos (by omega), if_neg (by omega)]; omega
theorem rst_dig {d f : List UInt8} {i n q : Nat} (h : Sh d f) (hs : RSt d f i n q) (hi : i < (d ++ tl f).length) (hd : dig (d ++ tl f)[i] = true) :
    n ≤ 1000000 ∧ (10 * n + ((d ++ tl f)[i].toNat - 48) ≤ 1000000 → RSt d f (i + 1) (10 * n + ((d ++ tl f)[i].toNat - 48)) (if d.length < i then q + 1 else q)) ∧
    10 * n + ((d ++ tl f)[i].toNat - 48) ≤ dval (d ++ f) := by
  obtain ⟨P, h1, h2, h3, h4, h5⟩ := hs
  rw [dleft_dig _ i hi hd] at h1
  obtain ⟨c, hc⟩ : ∃ c, (d ++ tl f)[i] = c := ⟨_, rfl⟩
  rw [hc] at h1 ⊢
  have h6 := sh_dig h i hi
  rw [hd] at h6
  have h7 : i ≠ d.length := of_decide_eq_true h6.symm
  have e : 10 * n + (c.toNat - 48) = dval (P ++ [c]) := by rw [dval_snoc, ← h2]; omega
  have e2 : (P ++ [c]) ++ dleft (d ++ tl f) (i + 1) = d ++ f := by rw [List.append_assoc]; exact h1
  refine ⟨h3, fun hm => ⟨P ++ [c], e2, e, hm, ?_, ?_⟩, ?_⟩
  · rw [List.length_append, h4]
    by_cases g : i < d.length
    · rw [if_pos (by omega), if_pos (by omega)]; rfl
    · rw [if_neg (by omega), if_neg (by omega)]; show i - 1 + 1 = _; omega
  · rw [List.length_append, h5]
    by_cases g : d.length < i
    · rw [if_pos g]; rw [h4, if_neg (by omega)]; show i - 1 - d.length + 1 = i - 1 + 1 - d.length; omega
    · rw [if_neg g]; rw [h4, if_pos (by omega)]; show i - d.length = i + 1 - d.length; omega
  · rw [e, ← e2]; exact dval_pre _ _
theorem rst_end {d f : List UInt8} {n q : Nat} (hs : RSt d f (d ++ tl f).length n q) : n = dval (d ++ f) ∧ q = f.length := by
  obtain ⟨P, h1, h2, _, _, h5⟩ := hs
  rw [dleft_end _ _ (Nat.le_refl _), List.append_nil] at h1
  rw [h1] at h2 h5
  refine ⟨h2, ?_⟩
  rw [h5, List.length_append]; omega
theorem dval_zs (l : List UInt8) (j : Nat) : dval (l ++ zs (j + 1)) = 10 * dval (l ++ zs j) := by
  have e : zs (j + 1) = zs j ++ [48] := by unfold zs; rw [List.replicate_succ']
  rw [e, ← List.append_assoc, dval_snoc]
  show _ * 10 + 0 = _
  omega
theorem dval_zs0 (l : List UInt8) : dval (l ++ zs 0) = dval l := by show dval (l ++ []) = _; rw [List.append_nil]
theorem dval_le_zs (l : List UInt8) (j k : Nat) (h : j ≤ k) : dval (l ++ zs j) ≤ dval (l ++ zs k) := by
  have e : zs k = zs j ++ zs (k - j) := by unfold zs; rw [List.replicate_append_replicate, show j + (k - j) = k from by omega]
  rw [e, ← List.append_assoc]; exact dval_pre _ _

/-! ### Whole texts -/
def TZ (l : List UInt8) : List Tok × Int × Int := if 2048 < l.length then ([], 0, 5) else TK 1 l
theorem TZ_small {l : List UInt8} (h : l.length ≤ 2048) : TZ l = TK 1 l := by unfold TZ; rw [if_neg (by omega)]
theorem TZ_bad {l : List UInt8} (h : (TZ l).2.2 ≠ 0) : (TZ l).1 = [] := by
  unfold TZ at *
  split
  · rfl
  · rename_i hl; rw [if_neg hl] at h; exact TK_bad l 1 h
theorem TZ_good {l : List UInt8} (h : (TZ l).2.2 = 0) : l.length ≤ 2048 ∧ TZ l = ((TK 1 l).1, 0, 0) := by
  unfold TZ at *
  by_cases hl : 2048 < l.length
  · rw [if_pos hl] at h; exact absurd h (by decide)
  · rw [if_neg hl] at h ⊢
    refine ⟨by omega, ?_⟩
    have h2 := TK_good l 1 h
    exact Prod.ext rfl (Prod.ext h2 h)
/-- What Join wants of tokens, so that its walk stays in its bounds. -/
def TokOk (l : List Tok) : Prop := ∀ t ∈ l, I64 t.2.1 ∧ I64 t.1 ∧ t.2.2.length ≤ 2048
theorem knd_I64 (l : List UInt8) : I64 (knd l) := by
  unfold knd I64
  split
  · split <;> omega
  · split
    · split <;> omega
    · omega
theorem TK_kind (l : List UInt8) : ∀ ln, ∀ u ∈ (TK ln l).1, I64 u.1 := by
  induction l using TK_ind with
  | h0 => intro ln u hu; exact absurd hu (by simp [TK_nil])
  | h1 r ih => intro ln u hu; rw [TK_feed] at hu; exact ih _ u hu
  | h2 c r h ih => intro ln u hu; rw [TK_blank ln c r h] at hu; exact ih _ u hu
  | h3 r ih => intro ln u hu; rw [TK_hash] at hu; exact ih _ u hu
  | h4 c r hb h => intro ln u hu; rw [TK_err ln c r hb h] at hu; exact absurd hu (by simp)
  | h5 c r hb h ih =>
    intro ln u hu
    rw [TK_tok ln c r hb h] at hu
    unfold psh at hu
    split at hu
    · rcases List.mem_cons.1 hu with e | e
      · rw [e]; exact knd_I64 _
      · exact ih _ u e
    · exact ih _ u hu
theorem TK_ok (l : List UInt8) (hl : l.length ≤ 2048) : TokOk (TK 1 l).1 := by
  intro t ht
  have h1 := TK_line l 1 t ht
  have h2 := TK_last l 1 t ht
  have h3 := TK_len l 1 t ht
  refine ⟨?_, TK_kind l 1 t ht, by omega⟩
  unfold I64; omega
theorem TZ_ok {l : List UInt8} : TokOk (TZ l).1 ∧ (TZ l).1.length ≤ 2048 := by
  unfold TZ
  split
  · exact ⟨fun t ht => absurd ht (by simp), by simp⟩
  · rename_i h
    refine ⟨TK_ok l (by omega), ?_⟩
    have := TK_count l 1
    omega
theorem TZ_line {l : List UInt8} (h : (TZ l).2.2 ≠ 0) : 0 ≤ (TZ l).2.1 ∧ (TZ l).2.1 ≤ 2049 := by
  unfold TZ at *
  split
  · exact ⟨by decide, by decide⟩
  · rename_i hl
    rw [if_neg hl] at h
    have key : ∀ (l : List UInt8) (ln : Int), (TK ln l).2.2 ≠ 0 → ln ≤ (TK ln l).2.1 ∧ (TK ln l).2.1 ≤ ln + l.length := by
      intro l
      induction l using TK_ind with
      | h0 => intro ln h; exact absurd rfl h
      | h1 r ih => intro ln h; rw [TK_feed] at h ⊢; have := ih _ h; rw [List.length_cons]; omega
      | h2 c r hc ih => intro ln h; rw [TK_blank ln c r hc] at h ⊢; have := ih _ h; rw [List.length_cons]; omega
      | h3 r ih => intro ln h; rw [TK_hash] at h ⊢; have := ih _ h; have := dw_le nlf r; rw [List.length_cons]; omega
      | h4 c r hb he => intro ln h; rw [TK_err ln c r hb he]; show ln ≤ ln ∧ ln ≤ _; omega
      | h5 c r hb he ih =>
        intro ln h
        rw [TK_tok ln c r hb he] at h ⊢
        unfold psh at h ⊢
        by_cases hq : (TK ln ((c :: r).drop (tx (c :: r)).length)).2.2 = 0
        · rw [if_pos hq] at h; exact absurd rfl h
        · rw [if_neg hq] at h ⊢
          have := ih ln h
          have := tx_le (c :: r)
          rw [List.length_drop] at *
          omega
    have := key l 1 h
    omega
theorem jE_cases (l : List Tok) : jE l = 0 ∨ jE l = 1 ∨ jE l = 5 := by
  unfold jE
  split
  · split
    · exact Or.inl rfl
    · exact Or.inr (Or.inr rfl)
  · exact Or.inr (Or.inl rfl)
/-- Tokens that Join accepts are restored. -/
theorem TZ_join {l : List Tok} (h : jE l = 0) : TZ (jV l) = (l, 0, 0) ∧ (jV l).length ≤ 2048 := by
  have hv : jV l = jT 1 true l := by unfold jV; rw [if_pos h]
  unfold jE at h
  by_cases h1 : jArg 1 l = true
  · rw [if_pos h1] at h
    by_cases h2 : (jT 1 true l).length ≤ 2048
    · rw [hv, TZ_small h2, TK_join l 1 true h1]; exact ⟨rfl, h2⟩
    · rw [if_neg h2] at h; exact absurd h (by decide)
  · rw [if_neg h1] at h; exact absurd h (by decide)
theorem jV_len (l : List Tok) : (jV l).length ≤ 2048 := by
  by_cases h : jE l = 0
  · exact (TZ_join h).2
  · unfold jV; rw [if_neg h]; exact Nat.zero_le _
/-- The tokens of a text are joined, or the text that would come out is too long. -/
theorem join_TZ {l : List UInt8} (h : (TZ l).2.2 = 0) : jE (TZ l).1 = 0 ∨ (jE (TZ l).1 = 5 ∧ 1024 < l.length) := by
  obtain ⟨h1, h2⟩ := TZ_good h
  rw [h2]
  show jE (TK 1 l).1 = 0 ∨ (jE (TK 1 l).1 = 5 ∧ 1024 < l.length)
  have h3 := TK_size l 1 true
  rw [if_pos rfl] at h3
  unfold jE
  rw [if_pos (TK_arg l 1)]
  by_cases h4 : (jT 1 true (TK 1 l).1).length ≤ 2048
  · rw [if_pos h4]; exact Or.inl rfl
  · rw [if_neg h4]; exact Or.inr ⟨rfl, by omega⟩
/-- A comment and a line feed ahead. -/
def ahd : List UInt8 := [35, 32, 49, 46, 53, 32, 61, 10]
theorem TZ_ahead (l : List UInt8) (h : l.length ≤ 2000) : TZ (ahd ++ l) = ((TZ l).1.map (shf 1), (if (TZ l).2.2 = 0 then 0 else (TZ l).2.1 + 1), (TZ l).2.2) := by
  have hl : (ahd ++ l).length ≤ 2048 := by rw [List.length_append]; show 8 + _ ≤ _; omega
  rw [TZ_small hl, TZ_small (by omega)]
  have e : TK 1 (ahd ++ l) = TK (1 + 1) l := by
    have h2 : ([32, 49, 46, 53, 32, 61] : List UInt8).dropWhile nlf = [] := by decide
    rw [show ahd ++ l = 35 :: ([32, 49, 46, 53, 32, 61] ++ 10 :: l) from rfl, TK_hash, dw_app, h2]
    rfl
  rw [e, TK_shift]
/-- Blanks at the ends. -/
theorem TZ_ends (l : List UInt8) (h : l.length ≤ 2000) : TZ ([9, 32] ++ l ++ [10, 32, 35]) = TZ l := by
  have hl : ([9, 32] ++ l ++ [10, 32, 35]).length ≤ 2048 := by rw [List.length_append, List.length_append]; show 2 + _ + 3 ≤ _; omega
  rw [TZ_small hl, TZ_small (by omega)]
  have e : [9, 32] ++ l ++ [10, 32, 35] = 9 :: 32 :: (l ++ 10 :: [32, 35]) := by simp
  rw [e, TK_blank 1 9 _ (Or.inr rfl), TK_blank 1 32 _ (Or.inl rfl)]
  exact TK_tail [32, 35] (fun ln => rfl) l 1
end Go.Proofs.YtcnnkobiijhegaaDoor.TM
