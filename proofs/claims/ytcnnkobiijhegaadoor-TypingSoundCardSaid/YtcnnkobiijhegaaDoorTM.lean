/-
  Bytes, marks, words, numbers and percentages of tokens, plain.
-/
import Derived.Test.YtcnnkobiijhegaaDoorWM
import Derived.Lib.Bytealg
import Derived.Lib.TrimByte
namespace Go.Proofs.YtcnnkobiijhegaaDoor.TM
open Go Go.Lib WM

def byt (s : ByteArray) : List UInt8 := s.data.toList
theorem byt_str (l : List UInt8) : byt (str l) = l := str_list l
theorem str_byt (s : ByteArray) : str (byt s) = s := list_str s
theorem byt_len (s : ByteArray) : (byt s).length = s.size := size_list s
theorem byt_app (s t : ByteArray) : byt (s ++ t) = byt s ++ byt t := by
  rw [← str_byt s, ← str_byt t, str_app, byt_str, byt_str, byt_str]
theorem str_inj {a b : List UInt8} (h : str a = str b) : a = b := by rw [← str_list a, ← str_list b, h]
theorem u8_all (p : UInt8 → Bool) (h : ∀ i : Fin 256, p (UInt8.ofNat i.val) = true) (c : UInt8) : p c = true := by
  have := h ⟨c.toNat, c.toNat_lt⟩
  rwa [show UInt8.ofNat c.toNat = c from UInt8.ofNat_toNat] at this

/-! ### Kinds of bytes -/
def isL (c : UInt8) : Bool := decide (97 ≤ c.toNat ∧ c.toNat ≤ 122)
def isW (c : UInt8) : Bool := isL c || dig c || c == 95
def isN (c : UInt8) : Bool := isW c || c == 46 || c == 37
def kd (c : UInt8) : Int :=
  if isL c then 4 else if dig c then 5 else if c = 32 ∨ c = 9 then 1 else if c = 10 then 2 else if c = 35 then 3
  else if c = 95 then 6 else if c = 46 ∨ c = 37 then 7 else 0
def inK (K : List Int) (c : UInt8) : Bool := K.contains (kd c)
theorem inK_W : inK [4, 5, 6] = isW := by
  funext c
  have := u8_all (fun c => inK [4, 5, 6] c == isW c) (by decide +kernel) c
  exact eq_of_beq this
theorem inK_N : inK [4, 5, 6, 7] = isN := by
  funext c
  have := u8_all (fun c => inK [4, 5, 6, 7] c == isN c) (by decide +kernel) c
  exact eq_of_beq this
theorem inK_D : inK [5] = dig := by
  funext c
  have := u8_all (fun c => inK [5] c == dig c) (by decide +kernel) c
  exact eq_of_beq this
theorem dig_W (c : UInt8) (h : dig c = true) : isW c = true := by simp [isW, h]
theorem dig_N (c : UInt8) (h : dig c = true) : isN c = true := by simp [isN, dig_W c h]
/-- The length of the longest beginning with a property. -/
def sp (p : UInt8 → Bool) (l : List UInt8) : Nat := (l.takeWhile p).length
theorem sp_le (p : UInt8 → Bool) (l : List UInt8) : sp p l ≤ l.length := (List.takeWhile_sublist p).length_le
theorem take_sp (p : UInt8 → Bool) (l : List UInt8) : l.take (sp p l) = l.takeWhile p := by
  unfold sp
  induction l with
  | nil => rfl
  | cons c r ih =>
    rw [List.takeWhile_cons]
    split
    · rw [List.length_cons, List.take_succ_cons, ih]
    · rfl
theorem drop_sp (p : UInt8 → Bool) (l : List UInt8) : l.drop (sp p l) = l.dropWhile p := by
  unfold sp
  induction l with
  | nil => rfl
  | cons c r ih =>
    rw [List.takeWhile_cons, List.dropWhile_cons]
    split
    · rw [List.length_cons, List.drop_succ_cons, ih]
    · rfl
theorem sp_at (p : UInt8 → Bool) (l : List UInt8) (k : Nat) (hk : k < l.length) (hA : ∀ j, (h : j < k) → p (l[j]'(by omega)) = true) (hB : p l[k] = false) : sp p l = k := by
  induction l generalizing k with
  | nil => exact absurd hk (Nat.not_lt_zero _)
  | cons c r ih =>
    unfold sp
    cases k with
    | zero =>
      have h1 : p c = false := hB
      rw [List.takeWhile_cons, h1]; rfl
    | succ k =>
      have h1 : p c = true := hA 0 (Nat.succ_pos _)
      rw [List.takeWhile_cons, h1]
      show sp p r + 1 = k + 1
      rw [ih k (Nat.lt_of_succ_lt_succ hk) (fun j hj => hA (j + 1) (Nat.succ_lt_succ hj)) hB]
theorem sp_all (p : UInt8 → Bool) (l : List UInt8) (hA : ∀ j, (h : j < l.length) → p l[j] = true) : sp p l = l.length := by
  induction l with
  | nil => rfl
  | cons c r ih =>
    unfold sp
    have h1 : p c = true := hA 0 (Nat.succ_pos _)
    rw [List.takeWhile_cons, h1]
    show sp p r + 1 = r.length + 1
    rw [ih (fun j hj => hA (j + 1) (Nat.succ_lt_succ hj))]
theorem sp_lt (p : UInt8 → Bool) (l : List UInt8) (j : Nat) (hj : j < sp p l) : ∃ h : j < l.length, p l[j] = true := by
  induction l generalizing j with
  | nil => exact absurd hj (Nat.not_lt_zero _)
  | cons c r ih =>
    unfold sp at hj
    rw [List.takeWhile_cons] at hj
    split at hj
    · rename_i h1
      cases j with
      | zero => exact ⟨Nat.succ_pos _, h1⟩
      | succ j =>
        obtain ⟨h, hp⟩ := ih j (Nat.lt_of_succ_lt_succ hj)
        exact ⟨Nat.succ_lt_succ h, hp⟩
    · exact absurd hj (Nat.not_lt_zero _)
theorem sp_stop (p : UInt8 → Bool) (l : List UInt8) (h : sp p l < l.length) : p l[sp p l] = false := by
  cases h1 : p l[sp p l]
  · rfl
  · exfalso
    have key : ∀ (l : List UInt8) (h : sp p l < l.length), p l[sp p l] = true → False := by
      intro l
      induction l with
      | nil => intro h _; exact absurd h (Nat.not_lt_zero _)
      | cons c r ih =>
        intro h h1
        cases hc : p c
        · have e : sp p (c :: r) = 0 := by unfold sp; rw [List.takeWhile_cons, hc]; rfl
          simp only [e, List.getElem_cons_zero, hc] at h1
          exact absurd h1 (by decide)
        · have e : sp p (c :: r) = sp p r + 1 := by unfold sp; rw [List.takeWhile_cons, hc]; rfl
          simp only [e, List.getElem_cons_succ] at h1
          exact ih (by rw [e] at h; exact Nat.lt_of_succ_lt_succ h) h1
    exact key l h h1
theorem tw_app (p : UInt8 → Bool) (l : List UInt8) (c : UInt8) (r : List UInt8) (hc : p c = false) : (l ++ c :: r).takeWhile p = l.takeWhile p := by
  induction l with
  | nil => show List.takeWhile p (c :: r) = []; rw [List.takeWhile_cons, hc]; rfl
  | cons d l ih =>
    rw [List.cons_append, List.takeWhile_cons, List.takeWhile_cons, ih]
theorem tw_idem (p : UInt8 → Bool) (l : List UInt8) : (l.takeWhile p).takeWhile p = l.takeWhile p := by
  induction l with
  | nil => rfl
  | cons c l ih =>
    rw [List.takeWhile_cons]
    split
    · rename_i h; rw [List.takeWhile_cons, if_pos h, ih]
    · rfl
theorem tw_cons_pos (p : UInt8 → Bool) (c : UInt8) (l : List UInt8) (h : p c = true) : (c :: l).takeWhile p = c :: l.takeWhile p := by rw [List.takeWhile_cons, if_pos h]

/-! ### Words -/
def wds : List (List UInt8) := [
  [112, 114, 111, 100, 117, 99, 116], [99, 117, 114, 114, 101, 110, 99, 121], [99, 97, 108, 101, 110, 100, 97, 114], [102, 114, 111, 109], [101, 118, 101, 114, 121],
  [111, 118, 101, 114, 100, 114, 97, 102, 116], [116, 97, 120], [99, 114, 101, 100, 105, 116], [100, 101, 98, 105, 116], [109, 97, 114, 103, 105, 110, 97, 108],
  [119, 104, 111, 108, 101], [97, 99, 116, 51, 54, 48], [97, 99, 116, 51, 54, 53], [97, 99, 116, 117, 97, 108], [116, 104, 105, 114, 116, 121],
  [100, 111, 119, 110], [117, 112], [102, 108, 111, 111, 114], [99, 101, 105, 108], [104, 97, 108, 102, 95, 117, 112],
  [104, 97, 108, 102, 95, 101, 118, 101, 110], [107, 101, 101, 112], [100, 114, 111, 112], [102, 101, 101], [108, 105, 109, 105, 116],
  [119, 104, 101, 110], [97, 109, 111, 117, 110, 116, 95, 111, 102], [115, 105, 110, 103, 108, 101], [100, 97, 105, 108, 121], [109, 111, 110, 116, 104, 108, 121],
  [109, 111, 110, 116, 104], [114, 101, 116, 117, 114, 110], [99, 108, 111, 115, 101], [101, 118, 101, 110, 116], [105, 102],
  [116, 104, 101, 110], [101, 108, 115, 101], [97, 110, 100], [111, 114], [110, 111, 116],
  [109, 105, 110], [109, 97, 120]]
def wrd (l : List UInt8) : Bool := wds.contains l

/-! ### Marks -/
def mks : List (List UInt8) := [[123], [125], [40], [41], [44], [59], [58], [36], [43], [45], [42], [47], [61, 61], [33, 61], [60, 61], [60]]
def one : List UInt8 := [123, 125, 40, 41, 44, 59, 58, 36, 43, 45, 42, 47, 60]
def mrk : List UInt8 → Nat
  | [] => 0
  | c :: r => if r.head? = some 61 ∧ (c = 61 ∨ c = 33 ∨ c = 60) then 2 else if one.contains c then 1 else 0
theorem mrk_cons (c : UInt8) (r : List UInt8) : mrk (c :: r) = if r.head? = some 61 ∧ (c = 61 ∨ c = 33 ∨ c = 60) then 2 else if one.contains c then 1 else 0 := rfl
def mfind (c : UInt8) (b : Bool) (m : List UInt8) : Bool := match m with
  | [a] => a == c
  | _ :: _ => m.head? == some c && b
  | [] => true
theorem mfind_eq (c : UInt8) (r : List UInt8) (m : List UInt8) (hm : m ∈ mks) : hasPrefix (c :: r) m = mfind c (decide (r.head? = some 61)) m := by
  have h : m = [m.headD 0] ∨ m = [m.headD 0, 61] := by
    have : ∀ m ∈ mks, m = [m.headD 0] ∨ m = [m.headD 0, 61] := by decide
    exact this m hm
  rcases h with h | h
  · rw [h]
    generalize m.headD 0 = a
    simp [hasPrefix, mfind, List.isPrefixOf]
  · rw [h]
    generalize m.headD 0 = a
    cases r with
    | nil => simp [hasPrefix, mfind, List.isPrefixOf]
    | cons d r =>
      simp only [hasPrefix, mfind, List.isPrefixOf, List.head?_cons, Bool.and_true]
      by_cases e : a = c
      · subst e
        by_cases e2 : d = 61
        · subst e2; simp
        · have h1 : ((61 : UInt8) == d) = false := by rw [beq_eq_false_iff_ne]; exact fun h => e2 h.symm
          simp [h1, e2]
      · have h1 : (a == c) = false := by rw [beq_eq_false_iff_ne]; exact e
        simp [h1]
theorem find_mfind (c : UInt8) (b : Bool) : mks.find? (mfind c b) = if b = true ∧ (c = 61 ∨ c = 33 ∨ c = 60) then some [c, 61] else if one.contains c then some [c] else none := by
  cases b
  · have := u8_all (fun c => decide (mks.find? (mfind c false) = if false = true ∧ (c = 61 ∨ c = 33 ∨ c = 60) then some [c, 61] else if one.contains c then some [c] else none)) (by decide +kernel) c
    exact of_decide_eq_true this
  · have := u8_all (fun c => decide (mks.find? (mfind c true) = if true = true ∧ (c = 61 ∨ c = 33 ∨ c = 60) then some [c, 61] else if one.contains c then some [c] else none)) (by decide +kernel) c
    exact of_decide_eq_true this
theorem find_mks (c : UInt8) (r : List UInt8) : mks.find? (hasPrefix (c :: r)) = if mrk (c :: r) = 0 then none else some ((c :: r).take (mrk (c :: r))) := by
  have h1 : mks.find? (hasPrefix (c :: r)) = mks.find? (mfind c (decide (r.head? = some 61))) := by
    have : ∀ ms : List (List UInt8), (∀ m ∈ ms, m ∈ mks) → ms.find? (hasPrefix (c :: r)) = ms.find? (mfind c (decide (r.head? = some 61))) := by
      intro ms
      induction ms with
      | nil => intro _; rfl
      | cons m ms ih =>
        intro h
        rw [List.find?_cons, List.find?_cons, mfind_eq c r m (h m List.mem_cons_self), ih (fun x hx => h x (List.mem_cons_of_mem _ hx))]
    exact this mks (fun m h => h)
  rw [h1, find_mfind]
  have hv : mrk (c :: r) = if r.head? = some 61 ∧ (c = 61 ∨ c = 33 ∨ c = 60) then 2 else if one.contains c then 1 else 0 := rfl
  have hlow : ¬ (r.head? = some 61 ∧ (c = 61 ∨ c = 33 ∨ c = 60)) → (if one.contains c then some [c] else none) = if mrk (c :: r) = 0 then none else some ((c :: r).take (mrk (c :: r))) := by
    intro hn
    rw [if_neg hn] at hv
    cases hm : one.contains c
    · rw [hm] at hv
      rw [hv]; rfl
    · rw [hm] at hv
      rw [hv]; rfl
  by_cases hb : r.head? = some 61
  · have hr : r = 61 :: r.tail := by
      cases r with
      | nil => exact absurd hb (by simp)
      | cons d r => simp only [List.head?_cons, Option.some.injEq] at hb; subst hb; rfl
    by_cases hc : c = 61 ∨ c = 33 ∨ c = 60
    · rw [if_pos ⟨hb, hc⟩] at hv
      rw [if_pos ⟨decide_eq_true hb, hc⟩, hv, if_neg (by decide), hr]
      rfl
    · rw [if_neg (fun h => hc h.2)]
      exact hlow (fun h => hc h.2)
  · rw [if_neg (fun h => hb (of_decide_eq_true h.1))]
    exact hlow (fun h => hb h.1)
theorem mrk_le (l : List UInt8) : mrk l ≤ l.length := by
  cases l with
  | nil => exact Nat.le_refl _
  | cons c r =>
    rw [mrk_cons, List.length_cons]
    split
    · rename_i h
      cases r with
      | nil => exact absurd h.1 (by simp)
      | cons d r => rw [List.length_cons]; omega
    · split <;> omega
theorem mrk_app (l : List UInt8) (hl : l ≠ []) (c : UInt8) (r : List UInt8) (hc : c ≠ 61) : mrk (l ++ c :: r) = mrk l := by
  cases l with
  | nil => exact absurd rfl hl
  | cons d l =>
    rw [List.cons_append, mrk_cons, mrk_cons]
    cases l with
    | nil =>
      have h1 : ¬ (([] ++ c :: r : List UInt8).head? = some 61 ∧ (d = 61 ∨ d = 33 ∨ d = 60)) := by
        intro h
        have h2 := h.1
        simp only [List.nil_append, List.head?_cons, Option.some.injEq] at h2
        exact hc h2
      have h2 : ¬ (([] : List UInt8).head? = some 61 ∧ (d = 61 ∨ d = 33 ∨ d = 60)) := fun h => absurd h.1 (by simp)
      rw [if_neg h1, if_neg h2]
    | cons f l => rfl
theorem mrk_idem (l : List UInt8) : mrk (l.take (mrk l)) = mrk l := by
  cases l with
  | nil => rfl
  | cons c r =>
    by_cases h : r.head? = some 61 ∧ (c = 61 ∨ c = 33 ∨ c = 60)
    · have hv : mrk (c :: r) = 2 := by rw [mrk_cons, if_pos h]
      rw [hv]
      cases r with
      | nil => exact absurd h.1 (by simp)
      | cons d r =>
        show mrk (c :: [d]) = 2
        rw [mrk_cons, if_pos ⟨h.1, h.2⟩]
    · cases hm : one.contains c
      · have hv : mrk (c :: r) = 0 := by rw [mrk_cons, if_neg h, hm]; rfl
        rw [hv]; rfl
      · have hv : mrk (c :: r) = 1 := by rw [mrk_cons, if_neg h, hm]; rfl
        rw [hv]
        show mrk (c :: []) = 1
        rw [mrk_cons, if_neg (fun h => absurd h.1 (by simp)), if_pos hm]
end Go.Proofs.YtcnnkobiijhegaaDoor.TM
