/-
  Encodings of lists of texts and of numbers, plain.
-/
import Derived.Test.YtlgplhekiemeoaaDoorWM
import Derived.Lib.Bytealg
namespace Go.Proofs.YtlgplhekiemeoaaDoor.WM
open Go Go.Lib

def byt (s : ByteArray) : List UInt8 := s.data.toList
theorem byt_str (l : List UInt8) : byt (str l) = l := str_list l
theorem str_byt (s : ByteArray) : str (byt s) = s := list_str s
theorem byt_len (s : ByteArray) : (byt s).length = s.size := size_list s
/-- The encoding of a list of texts. -/
def encL : List ByteArray → List UInt8
  | [] => []
  | x :: r => decDigits x.size ++ 58 :: (byt x ++ encL r)
theorem encL_app (a b : List ByteArray) : encL (a ++ b) = encL a ++ encL b := by
  induction a with
  | nil => rfl
  | cons x r ih => simp [encL, ih]
theorem encL_one (x : ByteArray) : encL [x] = decDigits x.size ++ 58 :: byt x := by simp [encL]
theorem encL_snoc (a : List ByteArray) (x : ByteArray) : encL (a ++ [x]) = encL a ++ (decDigits x.size ++ 58 :: byt x) := by rw [encL_app, encL_one]
/-- How many texts and bytes. -/
def sizeL (l : List ByteArray) : Nat := l.length + (l.map ByteArray.size).sum
/-- Where the first colon is, or the length. -/
def cpos : List UInt8 → Nat
  | [] => 0
  | c :: r => if c = 58 then 0 else cpos r + 1
theorem cpos_le (l : List UInt8) : cpos l ≤ l.length := by
  induction l with
  | nil => exact Nat.le_refl _
  | cons c r ih => unfold cpos; split <;> simp; omega
theorem cpos_app (a b : List UInt8) (h : ∀ c ∈ a, c ≠ 58) : cpos (a ++ 58 :: b) = a.length := by
  induction a with
  | nil => simp [cpos]
  | cons c r ih =>
    rw [List.cons_append, cpos, if_neg (h c (by simp)), ih (fun d hd => h d (by simp [hd]))]
    simp
theorem cpos_split (l : List UInt8) (h : cpos l < l.length) : l = l.take (cpos l) ++ 58 :: l.drop (cpos l + 1) := by
  induction l with
  | nil => simp at h
  | cons c r ih =>
    by_cases hc : c = 58
    · subst hc; simp [cpos]
    · have e : cpos (c :: r) = cpos r + 1 := by rw [cpos, if_neg hc]
      rw [e] at h ⊢
      rw [List.take_succ_cons, List.drop_succ_cons, List.cons_append, ← ih (by simpa using h)]
theorem cpos_at (l : List UInt8) (k : Nat) (h : k < cpos l) (hk : k < l.length) : l[k] ≠ 58 := by
  induction l generalizing k with
  | nil => simp at hk
  | cons c r ih =>
    by_cases hc : c = 58
    · rw [cpos, if_pos hc] at h; omega
    · rw [cpos, if_neg hc] at h
      cases k with
      | zero => exact hc
      | succ k => exact ih k (by omega) (by simpa using hk)
theorem cpos_here (l : List UInt8) (h : cpos l < l.length) : l[cpos l] = 58 := by
  induction l with
  | nil => simp at h
  | cons c r ih =>
    by_cases hc : c = 58
    · simp [cpos, hc]
    · have e : cpos (c :: r) = cpos r + 1 := by rw [cpos, if_neg hc]
      simp only [e]
      exact ih (by rw [e] at h; simpa using h)
theorem indexByte_cpos (l : List UInt8) : indexByte l 58 = if cpos l = l.length then -1 else (cpos l : Int) := by
  induction l with
  | nil => rfl
  | cons c r ih =>
    have hle := cpos_le r
    by_cases hc : c = 58
    · subst hc
      simp [indexByte, cpos]
    · have e : cpos (c :: r) = cpos r + 1 := by rw [cpos, if_neg hc]
      have hb : (c == 58) = false := by rw [beq_eq_false_iff_ne]; exact hc
      rw [e]
      simp only [indexByte, hb, ih, List.length_cons]
      by_cases h : cpos r = r.length
      · simp [h]
      · simp [h]
/-! ### One text read -/
def hdL (l : List UInt8) : List UInt8 := l.take (cpos l)
/-- Is what stands before the colon a length? -/
def lenB (l : List UInt8) : Bool := decide (tiE l = 0 ∧ 0 ≤ tiV l ∧ tiV l ≤ 16384)
def cutN (l : List UInt8) : Nat := (tiV (hdL l)).toNat
def cutE (l : List UInt8) : Int := if cpos l = l.length then 2 else if lenB (hdL l) then (if l.length < cpos l + 1 + cutN l then 24 else 0) else 2
def cutX (l : List UInt8) : List UInt8 := (l.drop (cpos l + 1)).take (cutN l)
def cutR (l : List UInt8) : List UInt8 := l.drop (cpos l + 1 + cutN l)
theorem cut_no (l : List UInt8) (h : cpos l = l.length) : cutE l = 2 := by unfold cutE; rw [if_pos h]
theorem cut_bad (l : List UInt8) (h : lenB (hdL l) = false) : cutE l = 2 := by
  unfold cutE; rw [h]; split <;> rfl
theorem cut_short (l : List UInt8) (h : cpos l ≠ l.length) (h1 : lenB (hdL l) = true) (h2 : l.length < cpos l + 1 + cutN l) : cutE l = 24 := by
  unfold cutE; rw [if_neg h, if_pos h1, if_pos h2]
theorem cut_fine (l : List UInt8) (h : cpos l ≠ l.length) (h1 : lenB (hdL l) = true) (h2 : ¬ l.length < cpos l + 1 + cutN l) : cutE l = 0 := by
  unfold cutE; rw [if_neg h, if_pos h1, if_neg h2]
theorem cutE_zero {l : List UInt8} (h : cutE l = 0) : cpos l < l.length ∧ lenB (hdL l) = true ∧ cpos l + 1 + cutN l ≤ l.length := by
  have hle := cpos_le l
  by_cases h0 : cpos l = l.length
  · rw [cut_no l h0] at h; omega
  · cases h1 : lenB (hdL l)
    · rw [cut_bad l h1] at h; omega
    · by_cases h2 : l.length < cpos l + 1 + cutN l
      · rw [cut_short l h0 h1 h2] at h; omega
      · exact ⟨by omega, rfl, by omega⟩
theorem cutE_cases (l : List UInt8) : cutE l = 0 ∨ cutE l = 2 ∨ cutE l = 24 := by
  unfold cutE; split
  · simp
  · split
    · split <;> simp
    · simp
theorem lenB_iff {h : List UInt8} (hb : lenB h = true) : tiE h = 0 ∧ 0 ≤ tiV h ∧ tiV h ≤ 16384 := by simpa [lenB] using hb
theorem lenB_dec {h : List UInt8} (hb : lenB h = true) : h = decDigits (tiV h).toNat ∧ (tiV h).toNat ≤ 16384 := by
  obtain ⟨h1, h2, h3⟩ := lenB_iff hb
  obtain ⟨o, _, e⟩ := tiE_zero h1
  have := itoa_ti h o
  rw [← e] at this
  refine ⟨?_, by omega⟩
  unfold itoa at this
  rw [if_neg (by omega)] at this
  exact this.symm
theorem lenB_len {h : List UInt8} (hb : lenB h = true) : h.length ≤ 5 := by
  obtain ⟨e, hn⟩ := lenB_dec hb
  rw [e, decDigits_length]
  exact nDigits_le 4 _ (by have e10 : (10 : Nat) ^ (4 + 1) = 100000 := by decide
                           omega)
theorem hdL_len (l : List UInt8) : (hdL l).length = cpos l := by
  unfold hdL; rw [List.length_take]; have := cpos_le l; omega
theorem cut_far (l : List UInt8) (h : 6 < cpos l) : cutE l = 2 := by
  cases h1 : lenB (hdL l)
  · exact cut_bad l h1
  · have := lenB_len h1
    rw [hdL_len] at this; omega
theorem cutX_len {l : List UInt8} (h : cutE l = 0) : (cutX l).length = cutN l := by
  obtain ⟨h1, h2, h3⟩ := cutE_zero h
  unfold cutX; rw [List.length_take, List.length_drop]; omega
theorem cutR_len (l : List UInt8) : (cutR l).length = l.length - (cpos l + 1 + cutN l) := by unfold cutR; rw [List.length_drop]
theorem cutN_le {l : List UInt8} (h : cutE l = 0) : cutN l ≤ 16384 := by
  obtain ⟨h1, h2, h3⟩ := cutE_zero h
  exact (lenB_dec h2).2
theorem cut_back {l : List UInt8} (h : cutE l = 0) : l = decDigits (str (cutX l)).size ++ 58 :: (byt (str (cutX l)) ++ cutR l) := by
  obtain ⟨h1, h2, h3⟩ := cutE_zero h
  rw [str_size, cutX_len h, byt_str]
  have e1 := cpos_split l h1
  have e2 := (lenB_dec h2).1
  have e3 : l.drop (cpos l + 1) = cutX l ++ cutR l := by
    unfold cutX cutR
    obtain ⟨n, hn⟩ : ∃ n, cpos l + 1 = n := ⟨_, rfl⟩
    rw [hn, ← List.drop_drop]
    exact (List.take_append_drop _ _).symm
  rw [← e3]
  unfold cutN
  rw [← e2]
  exact e1
theorem dec_no_colon (n : Nat) : ∀ c ∈ decDigits n, c ≠ 58 := by
  intro c hc e
  have h := allDig_dec n
  unfold allDig at h
  rw [List.all_eq_true] at h
  have := h c hc
  rw [e] at this
  exact absurd this (by decide)
theorem cut_enc (x : ByteArray) (r : List UInt8) (hx : x.size ≤ 16384) : cutE (decDigits x.size ++ 58 :: (byt x ++ r)) = 0 ∧ cutX (decDigits x.size ++ 58 :: (byt x ++ r)) = byt x ∧ cutR (decDigits x.size ++ 58 :: (byt x ++ r)) = r := by
  have hp := cpos_app (decDigits x.size) (byt x ++ r) (dec_no_colon _)
  have hh : hdL (decDigits x.size ++ 58 :: (byt x ++ r)) = decDigits x.size := by unfold hdL; rw [hp, List.take_left]
  have hi : itoa (x.size : Int) = decDigits x.size := by unfold itoa; rw [if_neg (by omega), Int.toNat_natCast]
  obtain ⟨t1, t2⟩ := ti_itoa (x.size : Int) (by unfold I64; omega)
  rw [hi] at t1 t2
  have hb : lenB (decDigits x.size) = true := by unfold lenB; rw [t1, t2]; simp; omega
  have hN : cutN (decDigits x.size ++ 58 :: (byt x ++ r)) = x.size := by unfold cutN; rw [hh, t2, Int.toNat_natCast]
  refine ⟨cut_fine _ ?_ (by rw [hh]; exact hb) ?_, ?_, ?_⟩
  · rw [hp]; simp
  · rw [hp, hN]; simp [byt_len]; omega
  · unfold cutX
    rw [hp, hN]
    have : (decDigits x.size ++ 58 :: (byt x ++ r)).drop ((decDigits x.size).length + 1) = byt x ++ r := by
      rw [← List.drop_drop, List.drop_left]; rfl
    rw [this]
    conv => lhs; rw [← byt_len x]
    exact List.take_left
  · unfold cutR
    rw [hp, hN]
    have : (decDigits x.size ++ 58 :: (byt x ++ r)).drop ((decDigits x.size).length + 1) = byt x ++ r := by
      rw [← List.drop_drop, List.drop_left]; rfl
    rw [← List.drop_drop, this]
    conv => lhs; rw [← byt_len x]
    exact List.drop_left
/-! ### A list read -/
def pre (x : ByteArray) (q : Int × List ByteArray) : Int × List ByteArray := if q.1 = 0 then (0, x :: q.2) else (q.1, [])
theorem cutR_lt {l : List UInt8} (h : l ≠ []) : (cutR l).length < l.length := by
  rw [cutR_len]
  have : 0 < l.length := List.length_pos_iff.2 h
  omega
def unp (l : List UInt8) : Int × List ByteArray :=
  if _h : l = [] then (0, []) else if cutE l = 0 then pre (str (cutX l)) (unp (cutR l)) else (cutE l, [])
termination_by l.length
decreasing_by exact cutR_lt _h
theorem unp_nil : unp [] = (0, []) := by rw [unp, dif_pos rfl]
theorem unp_go {l : List UInt8} (h : l ≠ []) (hc : cutE l = 0) : unp l = pre (str (cutX l)) (unp (cutR l)) := by rw [unp, dif_neg h, if_pos hc]
theorem unp_bad {l : List UInt8} (h : l ≠ []) (hc : cutE l ≠ 0) : unp l = (cutE l, []) := by rw [unp, dif_neg h, if_neg hc]
/-- What the whole gives when o is read and r is left. -/
def Cont (q : Int × List ByteArray) (o : List ByteArray) (r : List UInt8) : Prop := q = if (unp r).1 = 0 then (0, o ++ (unp r).2) else ((unp r).1, [])
theorem cont_start (l : List UInt8) : Cont (unp l) [] l := by
  unfold Cont
  by_cases h : l = []
  · subst h; rw [unp_nil]; rfl
  · by_cases hc : cutE l = 0
    · rw [unp_go h hc]; unfold pre; split
      · simp
      · simp
    · rw [unp_bad h hc]; simp [hc]
theorem cont_end {q : Int × List ByteArray} {o : List ByteArray} (h : Cont q o []) : q = (0, o) := by
  unfold Cont at h; rw [unp_nil] at h; simpa using h
theorem cont_bad {q : Int × List ByteArray} {o : List ByteArray} {r : List UInt8} (h : Cont q o r) (h0 : r ≠ []) (hc : cutE r ≠ 0) : q = (cutE r, []) := by
  unfold Cont at h; rw [unp_bad h0 hc] at h; simpa [hc] using h
theorem cont_step {q : Int × List ByteArray} {o : List ByteArray} {r : List UInt8} (h : Cont q o r) (h0 : r ≠ []) (hc : cutE r = 0) : Cont q (o ++ [str (cutX r)]) (cutR r) := by
  unfold Cont at *
  rw [unp_go h0 hc] at h
  rw [h]
  unfold pre
  by_cases h2 : (unp (cutR r)).1 = 0
  · simp [h2]
  · simp [h2]
theorem enc_ne (x : ByteArray) (r : List ByteArray) : encL (x :: r) ≠ [] := by simp [encL]
theorem unp_enc (l : List ByteArray) (h : ∀ x ∈ l, x.size ≤ 16384) : unp (encL l) = (0, l) := by
  induction l with
  | nil => exact unp_nil
  | cons x r ih =>
    obtain ⟨h1, h2, h3⟩ := cut_enc x (encL r) (h x (by simp))
    rw [unp_go (enc_ne x r) h1]
    show pre (str (cutX (decDigits x.size ++ 58 :: (byt x ++ encL r)))) (unp (cutR (decDigits x.size ++ 58 :: (byt x ++ encL r)))) = _
    rw [h2, h3, ih (fun y hy => h y (by simp [hy])), str_byt]
    rfl
theorem enc_unp (n : Nat) : ∀ s : List UInt8, s.length = n → (unp s).1 = 0 → encL (unp s).2 = s := by
  induction n using Nat.strongRecOn with
  | ind n ih =>
    intro s hs h
    by_cases h0 : s = []
    · subst h0; rw [unp_nil]; rfl
    · by_cases hc : cutE s = 0
      · have hq := unp_go h0 hc
        rw [hq] at h ⊢
        unfold pre at h ⊢
        by_cases h2 : (unp (cutR s)).1 = 0
        · rw [if_pos h2]
          show decDigits _ ++ 58 :: (byt _ ++ encL _) = s
          rw [ih (cutR s).length (by rw [← hs]; exact cutR_lt h0) (cutR s) rfl h2]
          exact (cut_back hc).symm
        · rw [if_neg h2] at h; exact absurd h h2
      · rw [unp_bad h0 hc] at h; exact absurd h hc
theorem enc_unp' (s : List UInt8) (h : (unp s).1 = 0) : encL (unp s).2 = s := enc_unp s.length s rfl h
theorem unp_sizes (n : Nat) : ∀ s : List UInt8, s.length = n → (unp s).2.length ≤ s.length ∧ ∀ x ∈ (unp s).2, x.size ≤ 16384 := by
  induction n using Nat.strongRecOn with
  | ind n ih =>
    intro s hs
    by_cases h0 : s = []
    · subst h0; rw [unp_nil]; simp
    · by_cases hc : cutE s = 0
      · rw [unp_go h0 hc]
        obtain ⟨i1, i2⟩ := ih (cutR s).length (by rw [← hs]; exact cutR_lt h0) (cutR s) rfl
        have hl := cutR_lt h0
        unfold pre
        split
        · refine ⟨by simp; omega, fun x hx => ?_⟩
          simp only [List.mem_cons] at hx
          rcases hx with rfl | hx
          · rw [str_size, cutX_len hc]; exact cutN_le hc
          · exact i2 x hx
        · simp
      · rw [unp_bad h0 hc]; simp
theorem unp_err (s : List UInt8) : (unp s).1 ≠ 0 → (unp s).2 = [] := by
  intro h
  by_cases h0 : s = []
  · subst h0; rw [unp_nil]
  · by_cases hc : cutE s = 0
    · rw [unp_go h0 hc] at h ⊢
      unfold pre at h ⊢
      split
      · rename_i h2; rw [if_pos h2] at h; exact absurd rfl h
      · rfl
    · rw [unp_bad h0 hc]
/-! ### Numbers -/
def decT (n : Int) : ByteArray := str (itoa n)
def encI (l : List Int) : List UInt8 := encL (l.map decT)
def preI (x : Int) (q : Int × List Int) : Int × List Int := if q.1 = 0 then (0, x :: q.2) else (q.1, [])
/-- The numbers with these texts, or the first error. -/
def tks : List ByteArray → Int × List Int
  | [] => (0, [])
  | t :: r => if tiE (byt t) = 0 then preI (tiV (byt t)) (tks r) else (tiE (byt t), [])
def ContI (q : Int × List Int) (o : List Int) (r : List ByteArray) : Prop := q = if (tks r).1 = 0 then (0, o ++ (tks r).2) else ((tks r).1, [])
theorem contI_start (l : List ByteArray) : ContI (tks l) [] l := by
  unfold ContI
  cases l with
  | nil => rfl
  | cons t r =>
    unfold tks
    split
    · unfold preI; split
      · simp
      · simp
    · simp
theorem contI_end {q : Int × List Int} {o : List Int} (h : ContI q o []) : q = (0, o) := by
  unfold ContI at h; simpa [tks] using h
theorem contI_bad {q : Int × List Int} {o : List Int} {t : ByteArray} {r : List ByteArray} (h : ContI q o (t :: r)) (hc : tiE (byt t) ≠ 0) : q = (tiE (byt t), []) := by
  unfold ContI at h; rw [tks, if_neg hc] at h; simpa [hc] using h
theorem contI_step {q : Int × List Int} {o : List Int} {t : ByteArray} {r : List ByteArray} (h : ContI q o (t :: r)) (hc : tiE (byt t) = 0) : ContI q (o ++ [tiV (byt t)]) r := by
  unfold ContI at *
  rw [tks, if_pos hc] at h
  rw [h]
  unfold preI
  by_cases h2 : (tks r).1 = 0
  · simp [h2]
  · simp [h2]
theorem tks_dec (l : List Int) (h : ∀ n ∈ l, I64 n) : tks (l.map decT) = (0, l) := by
  induction l with
  | nil => rfl
  | cons n r ih =>
    obtain ⟨h1, h2⟩ := ti_itoa n (h n (by simp))
    rw [List.map_cons, tks]
    unfold decT at *
    rw [byt_str, if_pos h1, h2, ih (fun m hm => h m (by simp [hm]))]
    rfl
theorem dec_tks (l : List ByteArray) (h : (tks l).1 = 0) : (tks l).2.map decT = l := by
  induction l with
  | nil => rfl
  | cons t r ih =>
    rw [tks] at h ⊢
    by_cases hc : tiE (byt t) = 0
    · rw [if_pos hc] at h ⊢
      unfold preI at h ⊢
      by_cases h2 : (tks r).1 = 0
      · rw [if_pos h2, List.map_cons, ih h2]
        obtain ⟨o, _, e⟩ := tiE_zero hc
        have := itoa_ti (byt t) o
        unfold decT
        rw [e, this, str_byt]
      · rw [if_neg h2] at h; exact absurd h h2
    · rw [if_neg hc] at h; exact absurd h hc
theorem tks_len (l : List ByteArray) : (tks l).2.length ≤ l.length ∧ ∀ n ∈ (tks l).2, I64 n := by
  induction l with
  | nil => simp [tks]
  | cons t r ih =>
    rw [tks]
    split
    · unfold preI; split
      · refine ⟨by simp; exact ih.1, fun n hn => ?_⟩
        simp only [List.mem_cons] at hn
        rcases hn with rfl | hn
        · exact tiV_I64 _
        · exact ih.2 n hn
      · simp
    · simp
/-- What TakeInts gives. -/
def tkE (s : List UInt8) (most : Int) : Int := if (unp s).1 = 0 then (if most < (unp s).2.length then 5 else (tks (unp s).2).1) else (unp s).1
def tkV (s : List UInt8) (most : Int) : List Int := if (unp s).1 = 0 then (if most < (unp s).2.length then [] else (tks (unp s).2).2) else []
theorem decT_size (n : Int) (h : I64 n) : (decT n).size ≤ 21 := by unfold decT; rw [str_size]; exact itoa_len n h
theorem tk_ints (l : List Int) (h : ∀ n ∈ l, I64 n) : tkE (encI l) l.length = 0 ∧ tkV (encI l) l.length = l := by
  have hu : unp (encI l) = (0, l.map decT) := unp_enc _ (fun x hx => by
    simp only [List.mem_map] at hx
    obtain ⟨n, hn, rfl⟩ := hx
    have := decT_size n (h n hn)
    omega)
  unfold tkE tkV
  rw [hu, tks_dec l h]
  simp
theorem ints_tk (s : List UInt8) (most : Int) (h : tkE s most = 0) : encI (tkV s most) = s := by
  unfold tkE at h
  unfold tkV
  by_cases h1 : (unp s).1 = 0
  · rw [if_pos h1] at h ⊢
    by_cases h2 : most < (unp s).2.length
    · rw [if_pos h2] at h; omega
    · rw [if_neg h2] at h ⊢
      unfold encI
      rw [dec_tks _ h]
      exact enc_unp' s h1
  · rw [if_neg h1] at h; exact absurd h h1
/-! ### Sizes -/
theorem sizeL_app (a b : List ByteArray) : sizeL (a ++ b) = sizeL a + sizeL b := by unfold sizeL; simp; omega
theorem sizeL_mem (l : List ByteArray) (x : ByteArray) (h : x ∈ l) : x.size + l.length ≤ sizeL l := by
  unfold sizeL
  have : x.size ≤ (l.map ByteArray.size).sum := by
    induction l with
    | nil => simp at h
    | cons y r ih =>
      simp only [List.mem_cons] at h
      simp only [List.map_cons, List.sum_cons]
      rcases h with rfl | h
      · omega
      · have := ih h; omega
  omega
theorem enc_len (l : List ByteArray) (h : ∀ x ∈ l, x.size ≤ 281474976710656) : (encL l).length ≤ 21 * l.length + sizeL l := by
  induction l with
  | nil => simp [encL]
  | cons x r ih =>
    have h1 := ih (fun y hy => h y (by simp [hy]))
    have h2 := nDigits_20 x.size (by have := h x (by simp); omega)
    unfold sizeL at *
    simp only [encL, List.length_append, List.length_cons, decDigits_length, byt_len, List.map_cons, List.sum_cons]
    omega
end Go.Proofs.YtlgplhekiemeoaaDoor.WM
