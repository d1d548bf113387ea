/-
  Tokens of a text, and a text of tokens, plain.
-/
import Derived.Test.YtcnnkobiijhegaaDoorTR
namespace Go.Proofs.YtcnnkobiijhegaaDoor.TM
open Go Go.Lib WM

/-! ### The first token -/
abbrev Tok := Int × Int × List UInt8
def hd (l : List UInt8) : UInt8 := l.headD 0
def tx (l : List UInt8) : List UInt8 := if isL (hd l) = true then l.takeWhile isW else if dig (hd l) = true then l.takeWhile isN else l.take (mrk l)
def knd (l : List UInt8) : Int := if isL (hd l) = true then (if wrd (tx l) = true then 5 else 1) else if dig (hd l) = true then (if numl (tx l) = true then 2 else 3) else 4
def nerr (x : List UInt8) : Int := if numl x = true then (if dval x ≤ 9223372036854775807 then 0 else 6) else if rE x = 0 then 0 else if rE x = 1 then 6 else 2
def nmerr (x : List UInt8) : Int := if wrd x = true then 0 else if 16 < x.length then 4 else 0
def err (l : List UInt8) : Int := if isL (hd l) = true then nmerr (tx l) else if dig (hd l) = true then nerr (tx l) else if mrk l = 0 then 2 else 0
theorem isL_W (c : UInt8) (h : isL c = true) : isW c = true := by simp [isW, h]
theorem isL_N (c : UInt8) (h : isL c = true) : isN c = true := by simp [isN, isL_W c h]
theorem tx_le (l : List UInt8) : (tx l).length ≤ l.length := by
  unfold tx
  split
  · exact (List.takeWhile_sublist _).length_le
  · split
    · exact (List.takeWhile_sublist _).length_le
    · rw [List.length_take]; exact Nat.min_le_right _ _
theorem tx_take (l : List UInt8) : l.take (tx l).length = tx l := by
  unfold tx
  split
  · exact take_sp _ _
  · split
    · exact take_sp _ _
    · rw [List.length_take, Nat.min_eq_left (mrk_le l)]
theorem tx_cons (c : UInt8) (r : List UInt8) (h : err (c :: r) = 0) : ∃ x, tx (c :: r) = c :: x := by
  have hh : hd (c :: r) = c := rfl
  unfold err at h
  unfold tx
  rw [hh] at h ⊢
  by_cases h1 : isL c = true
  · rw [if_pos h1, tw_cons_pos _ _ _ (isL_W c h1)]; exact ⟨_, rfl⟩
  · rw [if_neg h1] at h ⊢
    by_cases h2 : dig c = true
    · rw [if_pos h2, tw_cons_pos _ _ _ (dig_N c h2)]; exact ⟨_, rfl⟩
    · rw [if_neg h2] at h ⊢
      by_cases h3 : mrk (c :: r) = 0
      · rw [if_pos h3] at h; exact absurd h (by decide)
      · obtain ⟨k, hk⟩ : ∃ k, mrk (c :: r) = k + 1 := ⟨mrk (c :: r) - 1, by omega⟩
        rw [hk, List.take_succ_cons]; exact ⟨_, rfl⟩
/-- What stands behind a token in a text. -/
def sepc (c : UInt8) : Prop := isW c = false ∧ isN c = false ∧ c ≠ 61
theorem sep10 : sepc 10 := ⟨by decide, by decide, by decide⟩
theorem sep32 : sepc 32 := ⟨by decide, by decide, by decide⟩
theorem tx_app (d : UInt8) (x : List UInt8) (c : UInt8) (r : List UInt8) (hc : sepc c) : tx (d :: x ++ c :: r) = tx (d :: x) ∧ knd (d :: x ++ c :: r) = knd (d :: x) ∧ err (d :: x ++ c :: r) = err (d :: x) := by
  obtain ⟨h1, h2, h3⟩ := hc
  have hm := mrk_app (d :: x) (by simp) c r h3
  have ht : tx (d :: x ++ c :: r) = tx (d :: x) := by
    unfold tx
    have e1 : hd (d :: x ++ c :: r) = d := rfl
    have e2 : hd (d :: x) = d := rfl
    rw [e1, e2, tw_app isW _ c r h1, tw_app isN _ c r h2, hm, List.take_append_of_le_length (mrk_le _)]
  have e1 : hd (d :: x ++ c :: r) = d := rfl
  have e2 : hd (d :: x) = d := rfl
  refine ⟨ht, ?_, ?_⟩
  · unfold knd; rw [ht, e1, e2]
  · unfold err; rw [ht, e1, e2, hm]
theorem tx_idem (c : UInt8) (r : List UInt8) (h : err (c :: r) = 0) : tx (tx (c :: r)) = tx (c :: r) ∧ knd (tx (c :: r)) = knd (c :: r) ∧ err (tx (c :: r)) = 0 := by
  obtain ⟨x, hx⟩ := tx_cons c r h
  have e1 : hd (tx (c :: r)) = c := by rw [hx]; rfl
  have e2 : hd (c :: r) = c := rfl
  have ht : tx (tx (c :: r)) = tx (c :: r) := by
    rw [tx, e1]
    unfold tx
    rw [e2]
    by_cases h1 : isL c = true
    · rw [if_pos h1, if_pos h1, tw_idem]
    · rw [if_neg h1, if_neg h1]
      by_cases h2 : dig c = true
      · rw [if_pos h2, if_pos h2, tw_idem]
      · rw [if_neg h2, if_neg h2, mrk_idem, List.take_take, Nat.min_self]
  refine ⟨ht, ?_, ?_⟩
  · rw [knd, ht, e1]
    unfold knd
    rw [e2]
  · rw [err, ht, e1]
    rw [err, e2] at h
    by_cases h1 : isL c = true
    · rw [if_pos h1] at h ⊢; exact h
    · rw [if_neg h1] at h ⊢
      by_cases h2 : dig c = true
      · rw [if_pos h2] at h ⊢; exact h
      · rw [if_neg h2] at h ⊢
        have : tx (c :: r) = (c :: r).take (mrk (c :: r)) := by unfold tx; rw [e2, if_neg h1, if_neg h2]
        rw [this, mrk_idem]; exact h

/-! ### All tokens -/
def nlf (c : UInt8) : Bool := c != 10
def psh (t : Tok) (q : List Tok × Int × Int) : List Tok × Int × Int := if q.2.2 = 0 then (t :: q.1, 0, 0) else q
def tk : Nat → Int → List UInt8 → List Tok × Int × Int
  | 0, _, _ => ([], 0, 0)
  | _ + 1, _, [] => ([], 0, 0)
  | n + 1, ln, c :: r =>
    if c = 10 then tk n (ln + 1) r
    else if c = 32 ∨ c = 9 then tk n ln r
    else if c = 35 then tk n ln (r.dropWhile nlf)
    else if err (c :: r) ≠ 0 then ([], ln, err (c :: r))
    else psh (knd (c :: r), ln, tx (c :: r)) (tk n ln ((c :: r).drop (tx (c :: r)).length))
def TK (ln : Int) (l : List UInt8) : List Tok × Int × Int := tk l.length ln l
theorem dw_le (p : UInt8 → Bool) (l : List UInt8) : (l.dropWhile p).length ≤ l.length := (List.dropWhile_sublist p).length_le
theorem tk_fuel : ∀ (n m : Nat) (ln : Int) (l : List UInt8), l.length ≤ n → l.length ≤ m → tk n ln l = tk m ln l := by
  intro n
  induction n with
  | zero =>
    intro m ln l h _
    rw [List.eq_nil_of_length_eq_zero (Nat.le_zero.1 h)]
    cases m <;> rfl
  | succ n ih =>
    intro m ln l h1 h2
    cases l with
    | nil => cases m <;> rfl
    | cons c r =>
      cases m with
      | zero => exact absurd h2 (by simp)
      | succ m =>
        rw [List.length_cons] at h1 h2
        unfold tk
        have hd1 := dw_le nlf r
        rw [ih m (ln + 1) r (by omega) (by omega), ih m ln r (by omega) (by omega), ih m ln (r.dropWhile nlf) (by omega) (by omega)]
        by_cases he : err (c :: r) = 0
        · obtain ⟨x, hx⟩ := tx_cons c r he
          have h3 : ((c :: r).drop (tx (c :: r)).length).length ≤ r.length := by rw [hx, List.length_drop, List.length_cons, List.length_cons]; omega
          rw [ih m ln _ (by omega) (by omega)]
        · rw [if_pos he, if_pos he]
theorem TK_nil (ln : Int) : TK ln [] = ([], 0, 0) := rfl
theorem TK_feed (ln : Int) (r : List UInt8) : TK ln (10 :: r) = TK (ln + 1) r := rfl
theorem TK_blank (ln : Int) (c : UInt8) (r : List UInt8) (h : c = 32 ∨ c = 9) : TK ln (c :: r) = TK ln r := by
  unfold TK
  rw [List.length_cons, tk, if_neg (by rcases h with e | e <;> rw [e] <;> decide), if_pos h]
theorem TK_hash (ln : Int) (r : List UInt8) : TK ln (35 :: r) = TK ln (r.dropWhile nlf) := by
  unfold TK
  rw [List.length_cons, tk, if_neg (by decide), if_neg (by decide), if_pos rfl]
  exact tk_fuel _ _ _ _ (dw_le nlf r) (Nat.le_refl _)
/-- A byte at which a token begins. -/
def beg (c : UInt8) : Prop := c ≠ 10 ∧ ¬ (c = 32 ∨ c = 9) ∧ c ≠ 35
theorem TK_err (ln : Int) (c : UInt8) (r : List UInt8) (hb : beg c) (h : err (c :: r) ≠ 0) : TK ln (c :: r) = ([], ln, err (c :: r)) := by
  unfold TK
  rw [List.length_cons, tk, if_neg hb.1, if_neg hb.2.1, if_neg hb.2.2, if_pos h]
theorem TK_tok (ln : Int) (c : UInt8) (r : List UInt8) (hb : beg c) (h : err (c :: r) = 0) : TK ln (c :: r) = psh (knd (c :: r), ln, tx (c :: r)) (TK ln ((c :: r).drop (tx (c :: r)).length)) := by
  unfold TK
  rw [List.length_cons, tk, if_neg hb.1, if_neg hb.2.1, if_neg hb.2.2, if_neg (fun e => e h)]
  obtain ⟨x, hx⟩ := tx_cons c r h
  rw [tk_fuel r.length _ ln _ (by rw [hx, List.length_drop, List.length_cons, List.length_cons]; omega) (Nat.le_refl _)]
/-- The cases of a text, for a proof by its length. -/
theorem TK_ind (P : List UInt8 → Prop) (h0 : P []) (h1 : ∀ r, P r → P (10 :: r)) (h2 : ∀ c r, c = 32 ∨ c = 9 → P r → P (c :: r)) (h3 : ∀ r, P (r.dropWhile nlf) → P (35 :: r))
    (h4 : ∀ c r, beg c → err (c :: r) ≠ 0 → P (c :: r)) (h5 : ∀ c r, beg c → err (c :: r) = 0 → P ((c :: r).drop (tx (c :: r)).length) → P (c :: r)) (l : List UInt8) : P l := by
  have key : ∀ (n : Nat) (l : List UInt8), l.length ≤ n → P l := by
    intro n
    induction n with
    | zero => intro l h; rw [List.eq_nil_of_length_eq_zero (Nat.le_zero.1 h)]; exact h0
    | succ n ih =>
      intro l h
      cases l with
      | nil => exact h0
      | cons c r =>
        rw [List.length_cons] at h
        by_cases a1 : c = 10
        · rw [a1]; exact h1 r (ih r (by omega))
        · by_cases a2 : c = 32 ∨ c = 9
          · exact h2 c r a2 (ih r (by omega))
          · by_cases a3 : c = 35
            · rw [a3]; exact h3 r (ih _ (by have := dw_le nlf r; omega))
            · by_cases a4 : err (c :: r) = 0
              · refine h5 c r ⟨a1, a2, a3⟩ a4 (ih _ ?_)
                obtain ⟨x, hx⟩ := tx_cons c r a4
                rw [hx, List.length_drop, List.length_cons, List.length_cons]; omega
              · exact h4 c r ⟨a1, a2, a3⟩ a4
  exact key l.length l (Nat.le_refl _)
theorem TK_good (l : List UInt8) : ∀ ln, (TK ln l).2.2 = 0 → (TK ln l).2.1 = 0 := by
  induction l using TK_ind with
  | h0 => intro ln _; rfl
  | h1 r ih => intro ln; rw [TK_feed]; exact ih _
  | h2 c r h ih => intro ln; rw [TK_blank ln c r h]; exact ih _
  | h3 r ih => intro ln; rw [TK_hash]; exact ih _
  | h4 c r hb h => intro ln; rw [TK_err ln c r hb h]; exact fun e => absurd e h
  | h5 c r hb h ih =>
    intro ln
    rw [TK_tok ln c r hb h]
    unfold psh
    split
    · intro _; rfl
    · rename_i hq; exact fun e => absurd e hq
theorem TK_bad (l : List UInt8) : ∀ ln, (TK ln l).2.2 ≠ 0 → (TK ln l).1 = [] := by
  induction l using TK_ind with
  | h0 => intro ln _; rfl
  | h1 r ih => intro ln; rw [TK_feed]; exact ih _
  | h2 c r h ih => intro ln; rw [TK_blank ln c r h]; exact ih _
  | h3 r ih => intro ln; rw [TK_hash]; exact ih _
  | h4 c r hb h => intro ln; rw [TK_err ln c r hb h]; exact fun _ => rfl
  | h5 c r hb h ih =>
    intro ln
    rw [TK_tok ln c r hb h]
    unfold psh
    split
    · intro e; exact absurd rfl e
    · intro e; exact ih ln e
/-- What an outer reading gives with the tokens that it has. -/
def cmb (acc : List Tok) (q : List Tok × Int × Int) : List Tok × Int × Int := if q.2.2 = 0 then (acc ++ q.1, 0, 0) else ([], q.2.1, q.2.2)
theorem cmb_psh (acc : List Tok) (t : Tok) (q : List Tok × Int × Int) : cmb acc (psh t q) = cmb (acc ++ [t]) q := by
  unfold cmb psh
  by_cases h : q.2.2 = 0
  · rw [if_pos h, if_pos h, if_pos rfl]; simp
  · rw [if_neg h, if_neg h, if_neg h]
theorem cmb_nil (ln : Int) (l : List UInt8) : cmb [] (TK ln l) = TK ln l := by
  unfold cmb
  by_cases h : (TK ln l).2.2 = 0
  · rw [if_pos h, List.nil_append]
    have h2 := TK_good l ln h
    exact Prod.ext rfl (Prod.ext h2.symm h.symm)
  · rw [if_neg h]
    have h2 := TK_bad l ln h
    exact Prod.ext h2.symm rfl
theorem TK_len (l : List UInt8) : ∀ ln, ∀ u ∈ (TK ln l).1, u.2.2.length ≤ l.length := by
  induction l using TK_ind with
  | h0 => intro ln u hu; exact absurd hu (by simp [TK_nil])
  | h1 r ih => intro ln u hu; rw [TK_feed] at hu; have := ih _ u hu; rw [List.length_cons]; omega
  | h2 c r h ih => intro ln u hu; rw [TK_blank ln c r h] at hu; have := ih _ u hu; rw [List.length_cons]; omega
  | h3 r ih => intro ln u hu; rw [TK_hash] at hu; have := ih _ u hu; have := dw_le nlf r; rw [List.length_cons]; omega
  | h4 c r hb h => intro ln u hu; rw [TK_err ln c r hb h] at hu; exact absurd hu (by simp)
  | h5 c r hb h ih =>
    intro ln u hu
    rw [TK_tok ln c r hb h] at hu
    unfold psh at hu
    split at hu
    · rcases List.mem_cons.1 hu with e | e
      · rw [e]; exact tx_le _
      · have := ih _ u e; rw [List.length_drop] at this; omega
    · have := ih _ u hu; rw [List.length_drop] at this; omega
theorem TK_line (l : List UInt8) : ∀ ln, ∀ u ∈ (TK ln l).1, ln ≤ u.2.1 := by
  induction l using TK_ind with
  | h0 => intro ln u hu; exact absurd hu (by simp [TK_nil])
  | h1 r ih => intro ln u hu; rw [TK_feed] at hu; have := ih _ u hu; omega
  | h2 c r h ih => intro ln u hu; rw [TK_blank ln c r h] at hu; exact ih _ u hu
  | h3 r ih => intro ln u hu; rw [TK_hash] at hu; exact ih _ u hu
  | h4 c r hb h => intro ln u hu; rw [TK_err ln c r hb h] at hu; exact absurd hu (by simp)
  | h5 c r hb h ih =>
    intro ln u hu
    rw [TK_tok ln c r hb h] at hu
    unfold psh at hu
    split at hu
    · rcases List.mem_cons.1 hu with e | e
      · rw [e]; exact Int.le_refl _
      · exact ih _ u e
    · exact ih _ u hu
theorem TK_count (l : List UInt8) : ∀ ln, (TK ln l).1.length ≤ l.length := by
  induction l using TK_ind with
  | h0 => intro ln; exact Nat.le_refl _
  | h1 r ih => intro ln; rw [TK_feed]; have := ih (ln + 1); rw [List.length_cons]; omega
  | h2 c r h ih => intro ln; rw [TK_blank ln c r h]; have := ih ln; rw [List.length_cons]; omega
  | h3 r ih => intro ln; rw [TK_hash]; have := ih ln; have := dw_le nlf r; rw [List.length_cons]; omega
  | h4 c r hb h => intro ln; rw [TK_err ln c r hb h]; exact Nat.zero_le _
  | h5 c r hb h ih =>
    intro ln
    rw [TK_tok ln c r hb h]
    have h1 := ih ln
    obtain ⟨x, hx⟩ := tx_cons c r h
    have h2 : ((c :: r).drop (tx (c :: r)).length).length ≤ r.length := by rw [hx, List.length_drop, List.length_cons, List.length_cons]; omega
    unfold psh
    split
    · show _ + 1 ≤ r.length + 1; omega
    · rw [List.length_cons]; omega
theorem TK_last (l : List UInt8) : ∀ ln, ∀ u ∈ (TK ln l).1, u.2.1 ≤ ln + l.length := by
  induction l using TK_ind with
  | h0 => intro ln u hu; exact absurd hu (by simp [TK_nil])
  | h1 r ih => intro ln u hu; rw [TK_feed] at hu; have := ih _ u hu; rw [List.length_cons]; omega
  | h2 c r h ih => intro ln u hu; rw [TK_blank ln c r h] at hu; have := ih _ u hu; rw [List.length_cons]; omega
  | h3 r ih => intro ln u hu; rw [TK_hash] at hu; have := ih _ u hu; have := dw_le nlf r; rw [List.length_cons]; omega
  | h4 c r hb h => intro ln u hu; rw [TK_err ln c r hb h] at hu; exact absurd hu (by simp)
  | h5 c r hb h ih =>
    intro ln u hu
    rw [TK_tok ln c r hb h] at hu
    unfold psh at hu
    split at hu
    · rcases List.mem_cons.1 hu with e | e
      · rw [e]; show ln ≤ _; omega
      · have := ih _ u e; rw [List.length_drop] at this; omega
    · have := ih _ u hu; rw [List.length_drop] at this; omega
/-- The lines of tokens k lines farther. -/
def shf (k : Int) (t : Tok) : Tok := (t.1, t.2.1 + k, t.2.2)
theorem TK_shift (k : Int) (l : List UInt8) : ∀ ln, TK (ln + k) l = ((TK ln l).1.map (shf k), (if (TK ln l).2.2 = 0 then 0 else (TK ln l).2.1 + k), (TK ln l).2.2) := by
  induction l using TK_ind with
  | h0 => intro ln; rfl
  | h1 r ih => intro ln; rw [TK_feed, TK_feed, show ln + k + 1 = ln + 1 + k from by omega]; exact ih _
  | h2 c r h ih => intro ln; rw [TK_blank _ c r h, TK_blank _ c r h]; exact ih _
  | h3 r ih => intro ln; rw [TK_hash, TK_hash]; exact ih _
  | h4 c r hb h => intro ln; rw [TK_err _ c r hb h, TK_err _ c r hb h]; simp [h]
  | h5 c r hb h ih =>
    intro ln
    rw [TK_tok _ c r hb h, TK_tok _ c r hb h, ih]
    unfold psh
    by_cases hq : (TK ln ((c :: r).drop (tx (c :: r)).length)).2.2 = 0
    · simp [hq, shf]
    · simp [hq]
theorem dw_app (r : List UInt8) (z : List UInt8) : (r ++ 10 :: z).dropWhile nlf = r.dropWhile nlf ++ 10 :: z := by
  induction r with
  | nil => rfl
  | cons c r ih =>
    rw [List.cons_append, List.dropWhile_cons, List.dropWhile_cons]
    split
    · exact ih
    · rfl
theorem TK_tail (z : List UInt8) (hz : ∀ ln, TK ln z = ([], 0, 0)) (l : List UInt8) : ∀ ln, TK ln (l ++ 10 :: z) = TK ln l := by
  induction l using TK_ind with
  | h0 => intro ln; exact hz _
  | h1 r ih => intro ln; rw [List.cons_append, TK_feed, TK_feed]; exact ih _
  | h2 c r h ih => intro ln; rw [List.cons_append, TK_blank _ c _ h, TK_blank _ c _ h]; exact ih _
  | h3 r ih => intro ln; rw [List.cons_append, TK_hash, TK_hash, dw_app]; exact ih _
  | h4 c r hb h =>
    intro ln
    obtain ⟨_, _, e3⟩ := tx_app c r 10 z sep10
    rw [TK_err _ c r hb h]
    rw [List.cons_append] at e3 ⊢
    rw [TK_err _ c _ hb (by rw [e3]; exact h), e3]
  | h5 c r hb h ih =>
    intro ln
    obtain ⟨e1, e2, e3⟩ := tx_app c r 10 z sep10
    rw [TK_tok _ c r hb h, ← ih ln]
    have hle := tx_le (c :: r)
    rw [← List.drop_append_of_le_length hle]
    rw [List.cons_append] at e1 e2 e3 ⊢
    rw [TK_tok _ c _ hb (by rw [e3]; exact h), e1, e2]

/-! ### A token alone -/
def pr (t : Tok) : Int × List UInt8 := (t.1, t.2.2)
def aln (t : Tok) : Bool := decide ((TK 1 t.2.2).1.map pr = [(t.1, t.2.2)])
theorem aln_parts {t : Tok} (h : aln t = true) : ∃ c x, t.2.2 = c :: x ∧ beg c ∧ err (c :: x) = 0 ∧ tx (c :: x) = c :: x ∧ knd (c :: x) = t.1 := by
  unfold aln at h
  rw [decide_eq_true_eq] at h
  cases e : t.2.2 with
  | nil => rw [e, TK_nil] at h; exact absurd h (by simp)
  | cons c x =>
    rw [e] at h
    have big : ∀ (l : List UInt8) (ln : Int), (TK ln l).1.map pr = [(t.1, c :: x)] → x.length < l.length := by
      intro l ln h
      have hm : (t.1, c :: x) ∈ (TK ln l).1.map pr := by rw [h]; exact List.mem_cons_self
      obtain ⟨u, hu, he⟩ := List.mem_map.1 hm
      have h1 := TK_len l ln u hu
      have h2 : u.2.2 = c :: x := congrArg Prod.snd he
      rw [h2, List.length_cons] at h1; omega
    by_cases a1 : c = 10
    · subst a1; rw [TK_feed] at h; exact absurd (big _ _ h) (by omega)
    · by_cases a2 : c = 32 ∨ c = 9
      · rw [TK_blank _ c x a2] at h; exact absurd (big _ _ h) (by omega)
      · by_cases a3 : c = 35
        · subst a3; rw [TK_hash] at h; exact absurd (big _ _ h) (by have := dw_le nlf x; omega)
        · have hb : beg c := ⟨a1, a2, a3⟩
          by_cases a4 : err (c :: x) = 0
          · refine ⟨c, x, rfl, hb, a4, ?_⟩
            rw [TK_tok _ c x hb a4] at h
            unfold psh at h
            split at h
            · simp only [List.map_cons, pr, List.cons.injEq, Prod.mk.injEq] at h
              exact ⟨h.1.2, h.1.1⟩
            · rename_i hq
              rw [TK_bad _ _ hq] at h; exact absurd h (by simp)
          · rw [TK_err _ c x hb a4] at h; exact absurd h (by simp)
theorem aln_tok (c : UInt8) (r : List UInt8) (ln : Int) (hb : beg c) (h : err (c :: r) = 0) : aln (knd (c :: r), ln, tx (c :: r)) = true := by
  obtain ⟨e1, e2, e3⟩ := tx_idem c r h
  obtain ⟨x, hx⟩ := tx_cons c r h
  unfold aln
  rw [decide_eq_true_eq]
  show (TK 1 (tx (c :: r))).1.map pr = [(knd (c :: r), tx (c :: r))]
  rw [← e2]
  generalize tx (c :: r) = y at *
  subst hx
  rw [TK_tok 1 c x hb e3, e1, List.drop_length, TK_nil]
  rfl
theorem aln_size {t : Tok} (h : aln t = true) : 1 ≤ t.2.2.length := by
  obtain ⟨c, x, e, _⟩ := aln_parts h
  rw [e]; simp

/-! ### A text of tokens -/
def jSep (ln : Int) (b : Bool) (t : Tok) : List UInt8 := if t.2.1 = ln then (if b then [] else [32]) else List.replicate (t.2.1 - ln).toNat 10
def jT : Int → Bool → List Tok → List UInt8
  | _, _, [] => []
  | ln, b, t :: r => jSep ln b t ++ t.2.2 ++ jT t.2.1 false r
def jArg : Int → List Tok → Bool
  | _, [] => true
  | ln, t :: r => aln t && decide (ln ≤ t.2.1) && jArg t.2.1 r
def jE (l : List Tok) : Int := if jArg 1 l = true then (if (jT 1 true l).length ≤ 2048 then 0 else 5) else 1
def jV (l : List Tok) : List UInt8 := if jE l = 0 then jT 1 true l else []
theorem TK_feeds (n : Nat) : ∀ (ln : Int) (y : List UInt8), TK ln (List.replicate n 10 ++ y) = TK (ln + n) y := by
  induction n with
  | zero => intro ln y; rw [List.replicate_zero, List.nil_append, Int.natCast_zero, Int.add_zero]
  | succ n ih =>
    intro ln y
    rw [List.replicate_succ, List.cons_append, TK_feed, ih]
    rw [show ln + 1 + (n : Int) = ln + ((n + 1 : Nat) : Int) from by omega]
theorem TK_sep (ln : Int) (b : Bool) (t : Tok) (h : ln ≤ t.2.1) (y : List UInt8) : TK ln (jSep ln b t ++ y) = TK t.2.1 y := by
  unfold jSep
  by_cases e : t.2.1 = ln
  · rw [if_pos e, e]
    cases b
    · exact TK_blank ln 32 y (Or.inl rfl)
    · rfl
  · rw [if_neg e, TK_feeds]
    rw [show ln + ((t.2.1 - ln).toNat : Int) = t.2.1 from by omega]
theorem sep_head (ln : Int) (t : Tok) (h : ln ≤ t.2.1) (y : List UInt8) : ∃ c z, jSep ln false t ++ y = c :: z ∧ sepc c := by
  unfold jSep
  by_cases e : t.2.1 = ln
  · rw [if_pos e]; exact ⟨32, y, rfl, sep32⟩
  · rw [if_neg e]
    obtain ⟨k, hk⟩ : ∃ k, (t.2.1 - ln).toNat = k + 1 := ⟨(t.2.1 - ln).toNat - 1, by omega⟩
    rw [hk, List.replicate_succ]
    exact ⟨10, _, rfl, sep10⟩
theorem TK_join (l : List Tok) : ∀ (ln : Int) (b : Bool), jArg ln l = true → TK ln (jT ln b l) = (l, 0, 0) := by
  induction l with
  | nil => intro ln b _; rfl
  | cons t r ih =>
    intro ln b h
    unfold jArg at h
    rw [Bool.and_eq_true, Bool.and_eq_true, decide_eq_true_eq] at h
    obtain ⟨⟨h1, h2⟩, h3⟩ := h
    obtain ⟨c, x, e, hb, he, ht, hk⟩ := aln_parts h1
    have hr := ih t.2.1 false h3
    unfold jT
    rw [List.append_assoc, TK_sep ln b t h2, e]
    have main : TK t.2.1 (c :: x ++ jT t.2.1 false r) = psh (t.1, t.2.1, c :: x) (TK t.2.1 (jT t.2.1 false r)) := by
      cases r with
      | nil =>
        show TK t.2.1 (c :: x ++ []) = _
        rw [List.append_nil, TK_tok _ c x hb he, ht, List.drop_length, hk]
        rfl
      | cons u r =>
        unfold jArg at h3
        rw [Bool.and_eq_true, Bool.and_eq_true, decide_eq_true_eq] at h3
        have hj : jT t.2.1 false (u :: r) = jSep t.2.1 false u ++ (u.2.2 ++ jT u.2.1 false r) := by
          show jSep t.2.1 false u ++ u.2.2 ++ jT u.2.1 false r = _
          rw [List.append_assoc]
        obtain ⟨d, z, hz, hd⟩ := sep_head t.2.1 u h3.1.2 (u.2.2 ++ jT u.2.1 false r)
        rw [hj, hz]
        obtain ⟨e1, e2, e3⟩ := tx_app c x d z hd
        rw [List.cons_append] at e1 e2 e3 ⊢
        rw [TK_tok _ c _ hb (by rw [e3]; exact he), e1, e2, ht, hk]
        congr 2
        rw [← List.cons_append, List.drop_left]
    rw [main, hr]
    unfold psh
    rw [if_pos rfl]
    rw [← e]
theorem TK_arg (l : List UInt8) : ∀ ln, jArg ln (TK ln l).1 = true := by
  induction l using TK_ind with
  | h0 => intro ln; rfl
  | h1 r ih =>
    intro ln; rw [TK_feed]
    have h := ih (ln + 1)
    have hL := TK_line r (ln + 1)
    generalize (TK (ln + 1) r).1 = m at *
    cases m with
    | nil => rfl
    | cons t m =>
      unfold jArg at h ⊢
      rw [Bool.and_eq_true, Bool.and_eq_true, decide_eq_true_eq] at h ⊢
      exact ⟨⟨h.1.1, by omega⟩, h.2⟩
  | h2 c r h ih => intro ln; rw [TK_blank ln c r h]; exact ih _
  | h3 r ih => intro ln; rw [TK_hash]; exact ih _
  | h4 c r hb h => intro ln; rw [TK_err ln c r hb h]; rfl
  | h5 c r hb h ih =>
    intro ln
    rw [TK_tok ln c r hb h]
    unfold psh
    split
    · show (aln _ && decide (ln ≤ ln) && jArg ln _) = true
      rw [aln_tok c r ln hb h, ih ln, decide_eq_true (Int.le_refl ln)]; rfl
    · exact ih ln
theorem jT_feed (ln : Int) (b : Bool) (m : List Tok) (h : ∀ u ∈ m, ln + 1 ≤ u.2.1) : (jT ln b m).length ≤ 1 + (jT (ln + 1) true m).length := by
  cases m with
  | nil => exact Nat.zero_le _
  | cons t m =>
    have ht := h t List.mem_cons_self
    unfold jT
    rw [List.length_append, List.length_append, List.length_append, List.length_append]
    have : (jSep ln b t).length ≤ 1 + (jSep (ln + 1) true t).length := by
      unfold jSep
      rw [if_neg (by omega), List.length_replicate]
      split
      · rename_i e; rw [e]
        have : (ln + 1 - ln).toNat = 1 := by omega
        rw [this]; simp
      · rw [List.length_replicate]; omega
    omega
theorem TK_size (l : List UInt8) : ∀ ln b, (jT ln b (TK ln l).1).length ≤ 2 * l.length + (if b then 0 else 1) := by
  induction l using TK_ind with
  | h0 => intro ln b; exact Nat.zero_le _
  | h1 r ih =>
    intro ln b
    rw [TK_feed]
    have h1 := jT_feed ln b _ (TK_line r (ln + 1))
    have h2 := ih (ln + 1) true
    rw [if_pos rfl] at h2
    rw [List.length_cons]; omega
  | h2 c r h ih => intro ln b; rw [TK_blank ln c r h]; have := ih ln b; rw [List.length_cons]; omega
  | h3 r ih => intro ln b; rw [TK_hash]; have := ih ln b; have := dw_le nlf r; rw [List.length_cons]; omega
  | h4 c r hb h => intro ln b; rw [TK_err ln c r hb h]; exact Nat.zero_le _
  | h5 c r hb h ih =>
    intro ln b
    rw [TK_tok ln c r hb h]
    have h1 := ih ln false
    have hle := tx_le (c :: r)
    obtain ⟨x, hx⟩ := tx_cons c r h
    have h5 : 1 ≤ (tx (c :: r)).length := by rw [hx]; simp
    rw [List.length_drop] at h1
    rw [if_neg (by decide)] at h1
    unfold psh
    split
    · show (jSep ln b _ ++ tx (c :: r) ++ jT ln false _).length ≤ _
      rw [List.length_append, List.length_append]
      have h6 : (jSep ln b (knd (c :: r), ln, tx (c :: r))).length = if b then 0 else 1 := by
        unfold jSep
        rw [if_pos rfl]
        cases b <;> rfl
      rw [h6]; omega
    · rename_i hq
      rw [TK_bad _ _ hq]; exact Nat.zero_le _
end Go.Proofs.YtcnnkobiijhegaaDoor.TM
