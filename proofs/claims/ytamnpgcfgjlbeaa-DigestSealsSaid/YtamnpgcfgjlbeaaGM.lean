/-
  Digests, hexadecimal forms and check digits, plain.
-/
import Derived.Lib.Strings
import Derived.Lib.Bytealg
import GoSem.Claim
namespace Go.Proofs.Ytamnpgcfgjlbeaa.GM
open Go Go.Lib

/-! ### Texts -/
def str (l : List UInt8) : ByteArray := ⟨l.toArray⟩
def byt (s : ByteArray) : List UInt8 := s.data.toList
theorem str_size (l : List UInt8) : (str l).size = l.length := by simp [str, ByteArray.size]
theorem str_list (l : List UInt8) : (str l).data.toList = l := by simp [str]
theorem str_app (a b : List UInt8) : str a ++ str b = str (a ++ b) := by
  apply ByteArray.ext
  simp [str, ByteArray.data_append]
theorem list_str (s : ByteArray) : str s.data.toList = s := by
  obtain ⟨⟨l⟩⟩ := s; rfl
theorem byt_str (l : List UInt8) : byt (str l) = l := str_list l
theorem str_byt (s : ByteArray) : str (byt s) = s := list_str s
theorem size_list (s : ByteArray) : s.data.toList.length = s.size := by rw [Array.length_toList]; rfl
theorem byt_len (s : ByteArray) : (byt s).length = s.size := size_list s
theorem byt_app (s t : ByteArray) : byt (s ++ t) = byt s ++ byt t := by
  rw [← str_byt s, ← str_byt t, str_app, byt_str, byt_str, byt_str]
theorem str_cut (s : ByteArray) (a b : Nat) : s.extract a b = str (((byt s).take b).drop a) := by
  rw [Lib.extract_eq]
  unfold str byt
  rw [List.drop_take]
theorem drop_cons' (s : ByteArray) (k : Nat) (h : k < s.size) : (byt s).drop k = s[k] :: (byt s).drop (k + 1) := by
  rw [List.drop_eq_getElem_cons (by rw [byt_len]; exact h)]; rfl
theorem drop_nil' (s : ByteArray) : (byt s).drop s.size = [] := by
  rw [← byt_len]; exact List.drop_length
theorem get_mem (s : ByteArray) (k : Nat) (h : k < s.size) : s[k] ∈ byt s := by
  have : s[k] = (byt s)[k]'(by rw [byt_len]; exact h) := rfl
  rw [this]; exact List.getElem_mem _
theorem get_getD (s : ByteArray) (k : Nat) (h : k < s.size) : s[k] = (byt s).getD k 0 := by
  have : s[k] = (byt s)[k]'(by rw [byt_len]; exact h) := rfl
  rw [this, List.getD_eq_getElem?_getD, List.getElem?_eq_getElem]; rfl

/-! ### Digests -/
def stp (h : Nat) (b : UInt8) : Nat := ((h ^^^ b.toNat) * 1099511628211) % 18446744073709551616
def ext (h : Nat) (l : List UInt8) : Nat := l.foldl stp h
def sta : Nat := 14695981039346656037
theorem stp_lt (h : Nat) (b : UInt8) : stp h b < 18446744073709551616 := Nat.mod_lt _ (by decide)
theorem ext_lt (l : List UInt8) : ∀ h, h < 18446744073709551616 → ext h l < 18446744073709551616 := by
  induction l with
  | nil => intro h hh; exact hh
  | cons c l ih => intro h _; exact ih _ (stp_lt h c)
theorem ext_app (h : Nat) (l m : List UInt8) : ext h (l ++ m) = ext (ext h l) m := by simp [ext]
theorem sta_lt : sta < 18446744073709551616 := by decide
theorem ext_cons (h : Nat) (b : UInt8) (l : List UInt8) : ext h (b :: l) = ext (stp h b) l := rfl
/-- The first n bytes of a number, the least significant one first. -/
def low : Nat → Nat → List UInt8
  | 0, _ => []
  | n + 1, h => UInt8.ofNat (h % 256) :: low n (h / 256)
def eig (h : Nat) : List UInt8 := low 8 h
theorem low_length (n : Nat) : ∀ h, (low n h).length = n := by
  induction n with
  | zero => intro h; rfl
  | succ n ih => intro h; simp [low, ih]
def by8 (h k : Nat) : UInt8 := UInt8.ofNat (h / 256 ^ k % 256)
theorem by8_nat (h k : Nat) : (by8 h k).toNat = h / 256 ^ k % 256 := by
  unfold by8
  rw [UInt8.toNat_ofNat']
  exact Nat.mod_eq_of_lt (Nat.mod_lt _ (by decide))
theorem low_by8 (n h k : Nat) : low (n + 1) (h / 256 ^ k) = by8 h k :: low n (h / 256 ^ (k + 1)) := by
  show UInt8.ofNat (h / 256 ^ k % 256) :: low n (h / 256 ^ k / 256) = _
  rw [Nat.div_div_eq_div_mul, ← Nat.pow_succ]; rfl

/-! ### Hexadecimal forms -/
def hdg (d : Nat) : UInt8 := if d < 10 then UInt8.ofNat (48 + d) else UInt8.ofNat (87 + d)
/-- The n last digits of a number, the most significant one first. -/
def hx : Nat → Nat → List UInt8
  | 0, _ => []
  | n + 1, h => hx n (h / 16) ++ [hdg (h % 16)]
def hex (h : Nat) : List UInt8 := hx 16 h
theorem hx_length (n : Nat) : ∀ h, (hx n h).length = n := by
  induction n with
  | zero => intro h; rfl
  | succ n ih => intro h; simp [hx, ih]
def hv (c : UInt8) : Int := if 48 ≤ c.toNat ∧ c.toNat ≤ 57 then (c.toNat : Int) - 48 else if 97 ≤ c.toNat ∧ c.toNat ≤ 102 then (c.toNat : Int) - 87 else -1
def digs : List UInt8 := [48, 49, 50, 51, 52, 53, 54, 55, 56, 57, 97, 98, 99, 100, 101, 102]
theorem u8_all (p : UInt8 → Bool) (h : ∀ i : Fin 256, p (UInt8.ofNat i.val) = true) (c : UInt8) : p c = true := by
  have := h ⟨c.toNat, c.toNat_lt⟩
  rwa [show UInt8.ofNat c.toNat = c from UInt8.ofNat_toNat] at this
theorem idx_hv (c : UInt8) : Lib.indexByte digs c = hv c :=
  of_decide_eq_true (u8_all (fun c => decide (Lib.indexByte digs c = hv c)) (by decide +kernel) c)
theorem hv_ge (c : UInt8) : hv c = -1 ∨ (0 ≤ hv c ∧ hv c < 16) := by unfold hv; split <;> (try split) <;> omega
theorem hv_hdg (d : Nat) (h : d < 16) : hv (hdg d) = d := by
  have : ∀ d : Fin 16, hv (hdg d.val) = (d.val : Int) := by decide
  exact this ⟨d, h⟩
theorem hdg_hv (c : UInt8) (h : 0 ≤ hv c) : hdg (hv c).toNat = c := by
  have := u8_all (fun c => decide (0 ≤ hv c → hdg (hv c).toNat = c)) (by decide +kernel) c
  exact of_decide_eq_true this h
theorem digs_get (d : Nat) (h : d < 16) : digs[d]? = some (hdg d) := by
  have : ∀ d : Fin 16, digs[d.val]? = some (hdg d.val) := by decide
  exact this ⟨d, h⟩
theorem dig_piece (d : Nat) (h : d < 16) : (⟨#[48, 49, 50, 51, 52, 53, 54, 55, 56, 57, 97, 98, 99, 100, 101, 102]⟩ : ByteArray).extract d (d + 1) = str [hdg d] := by
  have key : ∀ r : Fin 16, (⟨#[48, 49, 50, 51, 52, 53, 54, 55, 56, 57, 97, 98, 99, 100, 101, 102]⟩ : ByteArray).extract r.val (r.val + 1) = str [hdg r.val] := by decide
  exact key ⟨d, h⟩
def hexOk (l : List UInt8) : Bool := l.all fun c => decide (0 ≤ hv c)
def hstp (h : Nat) (c : UInt8) : Nat := 16 * h + (hv c).toNat
def hfold (h : Nat) (l : List UInt8) : Nat := l.foldl hstp h
theorem hfold_cons (h : Nat) (c : UInt8) (l : List UInt8) : hfold h (c :: l) = hfold (hstp h c) l := rfl
theorem hfold_app (h : Nat) (l m : List UInt8) : hfold h (l ++ m) = hfold (hfold h l) m := by simp [hfold]
def unE (l : List UInt8) : Int := if l.length = 16 ∧ hexOk l = true then 0 else 2
def unV (l : List UInt8) : Nat := if l.length = 16 ∧ hexOk l = true then hfold 0 l else 0
theorem hexOk_app (l m : List UInt8) : hexOk (l ++ m) = (hexOk l && hexOk m) := by simp [hexOk]
theorem hstp_lt (h : Nat) (c : UInt8) : hstp h c < 16 * h + 16 := by
  unfold hstp
  rcases hv_ge c with e | ⟨e1, e2⟩ <;> omega
theorem hfold_lt (l : List UInt8) : ∀ h, hfold h l < (h + 1) * 16 ^ l.length := by
  induction l with
  | nil => intro h; simp [hfold]
  | cons c l ih =>
    intro h
    rw [hfold_cons, List.length_cons]
    have h1 := ih (hstp h c)
    have h2 := hstp_lt h c
    have h3 : (hstp h c + 1) * 16 ^ l.length ≤ (16 * h + 16) * 16 ^ l.length := Nat.mul_le_mul_right _ (by omega)
    have h4 : (h + 1) * 16 ^ (l.length + 1) = (16 * h + 16) * 16 ^ l.length := by
      rw [Nat.pow_succ, Nat.mul_comm (16 ^ l.length) 16, ← Nat.mul_assoc, Nat.add_mul, Nat.mul_comm h 16, Nat.one_mul]
    rw [h4]; omega
theorem hexOk_hx (n : Nat) : ∀ h, hexOk (hx n h) = true := by
  induction n with
  | zero => intro h; rfl
  | succ n ih =>
    intro h
    show hexOk (hx n (h / 16) ++ [hdg (h % 16)]) = true
    rw [hexOk_app, ih]
    simp [hexOk, hv_hdg _ (Nat.mod_lt h (by decide : 16 > 0))]
    omega
theorem hfold_hx (n : Nat) : ∀ h, hfold 0 (hx n h) = h % 16 ^ n := by
  induction n with
  | zero => intro h; simp [hx, hfold, Nat.mod_one]
  | succ n ih =>
    intro h
    show hfold 0 (hx n (h / 16) ++ [hdg (h % 16)]) = _
    rw [hfold_app, ih]
    have e : hfold (h / 16 % 16 ^ n) [hdg (h % 16)] = 16 * (h / 16 % 16 ^ n) + (hv (hdg (h % 16))).toNat := rfl
    rw [e, hv_hdg _ (Nat.mod_lt h (by decide : 16 > 0)), Int.toNat_natCast, Nat.pow_succ, Nat.mul_comm (16 ^ n) 16, Nat.mod_mul]
    omega
theorem un_hex (h : Nat) (hh : h < 18446744073709551616) : unE (hex h) = 0 ∧ unV (hex h) = h := by
  have h1 : (hex h).length = 16 ∧ hexOk (hex h) = true := ⟨hx_length 16 h, hexOk_hx 16 h⟩
  unfold unE unV
  rw [if_pos h1, if_pos h1]
  refine ⟨rfl, ?_⟩
  show hfold 0 (hx 16 h) = h
  rw [hfold_hx]
  exact Nat.mod_eq_of_lt (by have : (16 : Nat) ^ 16 = 18446744073709551616 := by decide
                             omega)
theorem hx_hfold : ∀ (n : Nat) (l : List UInt8), l.length = n → hexOk l = true → hx n (hfold 0 l) = l := by
  intro n
  induction n with
  | zero => intro l hl _; rw [List.length_eq_zero_iff.1 hl]; rfl
  | succ n ih =>
    intro l hl ho
    have hne : l ≠ [] := by intro e; rw [e] at hl; exact absurd hl (by simp)
    obtain ⟨m, c, rfl⟩ : ∃ m c, l = m ++ [c] := ⟨l.dropLast, l.getLast hne, (List.dropLast_concat_getLast hne).symm⟩
    rw [hexOk_app, Bool.and_eq_true] at ho
    have hm : m.length = n := by rw [List.length_append] at hl; simpa using hl
    have hc : 0 ≤ hv c := by simpa [hexOk] using ho.2
    have hc2 : hv c < 16 := by rcases hv_ge c with e | e <;> omega
    rw [hfold_app]
    have e : hfold (hfold 0 m) [c] = 16 * hfold 0 m + (hv c).toNat := rfl
    have e2 : (16 * hfold 0 m + (hv c).toNat) / 16 = hfold 0 m := by omega
    have e3 : (16 * hfold 0 m + (hv c).toNat) % 16 = (hv c).toNat := by omega
    rw [e]
    show hx n ((16 * hfold 0 m + (hv c).toNat) / 16) ++ [hdg ((16 * hfold 0 m + (hv c).toNat) % 16)] = m ++ [c]
    rw [e2, e3, ih m hm ho.1, hdg_hv c hc]
theorem hex_un (l : List UInt8) (h : unE l = 0) : hex (unV l) = l := by
  unfold unE at h
  by_cases c : l.length = 16 ∧ hexOk l = true
  · unfold unV hex
    rw [if_pos c]
    exact hx_hfold 16 l c.1 c.2
  · rw [if_neg c] at h; exact absurd h (by decide)
theorem unV_lt (l : List UInt8) : unV l < 18446744073709551616 := by
  unfold unV
  split
  · rename_i c
    have := hfold_lt l 0
    rw [c.1] at this
    have e : (16 : Nat) ^ 16 = 18446744073709551616 := by decide
    omega
  · omega

/-! ### Check digits -/
def dgB (c : UInt8) : Bool := decide (48 ≤ c.toNat ∧ c.toNat ≤ 57)
def ltB (c : UInt8) : Bool := decide (65 ≤ c.toNat ∧ c.toNat ≤ 90)
def okB (c : UInt8) : Bool := dgB c || ltB c
def pln (l : List UInt8) : Bool := l.all okB
def rstp (n : Nat) (c : UInt8) : Nat := if c.toNat ≤ 57 then (10 * n + (c.toNat - 48)) % 97 else (100 * n + (c.toNat - 65) + 10) % 97
def rfold (n : Nat) (l : List UInt8) : Nat := l.foldl rstp n
def rst (l : List UInt8) : Nat := rfold 0 l
theorem rstp_lt (n : Nat) (c : UInt8) : rstp n c < 97 := by unfold rstp; split <;> omega
theorem rfold_cons (n : Nat) (c : UInt8) (l : List UInt8) : rfold n (c :: l) = rfold (rstp n c) l := rfl
theorem rfold_app (n : Nat) (l m : List UInt8) : rfold n (l ++ m) = rfold (rfold n l) m := by simp [rfold]
theorem rfold_lt (l : List UInt8) : ∀ n, n < 97 → rfold n l < 97 := by
  induction l with
  | nil => intro n h; exact h
  | cons c l ih => intro n _; exact ih _ (rstp_lt n c)
theorem rst_lt (l : List UInt8) : rst l < 97 := rfold_lt l 0 (by decide)
theorem pln_app (l m : List UInt8) : pln (l ++ m) = (pln l && pln m) := by simp [pln]
theorem ok_cases (c : UInt8) (h : okB c = true) : (dgB c = true ∧ ltB c = false ∧ 48 ≤ c.toNat ∧ c.toNat ≤ 57) ∨ (dgB c = false ∧ ltB c = true ∧ 65 ≤ c.toNat ∧ c.toNat ≤ 90) := by
  unfold okB at h
  unfold dgB ltB at *
  simp only [Bool.or_eq_true, decide_eq_true_eq, decide_eq_false_iff_not] at *
  omega
/-- The remainder of a text goes on from different remainders to different ones. -/
theorem rstp_inj (c : UInt8) {n m : Nat} (hn : n < 97) (hm : m < 97) (h : rstp n c = rstp m c) : n = m := by
  unfold rstp at h
  split at h <;> omega
theorem rfold_inj (l : List UInt8) : ∀ {n m : Nat}, n < 97 → m < 97 → rfold n l = rfold m l → n = m := by
  induction l with
  | nil => intro n m _ _ h; exact h
  | cons c l ih => intro n m hn hm h; exact rstp_inj c hn hm (ih (rstp_lt n c) (rstp_lt m c) h)
theorem rstp_diff (n : Nat) {c d : UInt8} (hc : okB c = true) (hd : okB d = true) (hl : ltB c = ltB d) (h : rstp n c = rstp n d) : c = d := by
  apply UInt8.toNat_inj.1
  unfold rstp at h
  rcases ok_cases c hc with ⟨_, a2, a3, a4⟩ | ⟨_, a2, a3, a4⟩ <;> rcases ok_cases d hd with ⟨_, b2, b3, b4⟩ | ⟨_, b2, b3, b4⟩
  · rw [if_pos a4, if_pos b4] at h; omega
  · rw [a2, b2] at hl; cases hl
  · rw [a2, b2] at hl; cases hl
  · rw [if_neg (by omega), if_neg (by omega)] at h; omega
def mE (l : List UInt8) : Int := if l.length < 1 ∨ 48 < l.length then 5 else if pln l = true then 0 else 2
def mV (l : List UInt8) : Nat := if mE l = 0 then rst l else 0
def sealE (l : List UInt8) : Int := if l.length < 1 ∨ 46 < l.length then 5 else if pln l = true then 0 else 2
def chk (l : List UInt8) : Nat := 98 - rst (l ++ [48, 48])
def sealL (l : List UInt8) : List UInt8 := l ++ [UInt8.ofNat (48 + chk l / 10), UInt8.ofNat (48 + chk l % 10)]
def sealV (l : List UInt8) : List UInt8 := if sealE l = 0 then sealL l else []
def sealedB (l : List UInt8) : Bool := decide (3 ≤ l.length) && decide (mE l = 0) && decide (mV l = 1)
theorem chk_bounds (l : List UInt8) : 2 ≤ chk l ∧ chk l ≤ 98 := by
  have := rst_lt (l ++ [48, 48])
  unfold chk; omega
theorem digit_ok (d : Nat) (h : d < 10) : dgB (UInt8.ofNat (48 + d)) = true ∧ (UInt8.ofNat (48 + d)).toNat = 48 + d := by
  have : (UInt8.ofNat (48 + d)).toNat = 48 + d := by rw [UInt8.toNat_ofNat', Nat.mod_eq_of_lt (by omega)]
  refine ⟨?_, this⟩
  unfold dgB; rw [this, decide_eq_true_eq]; omega
theorem rst_sealL (l : List UInt8) : rst (sealL l) = 1 := by
  have h0 : rst (l ++ [48, 48]) = (100 * rst l) % 97 := by
    unfold rst
    rw [rfold_app, rfold_cons, rfold_cons]
    show rstp (rstp (rfold 0 l) 48) 48 = _
    unfold rstp
    rw [if_pos (by decide), if_pos (by decide)]
    show (10 * ((10 * rfold 0 l + 0) % 97) + 0) % 97 = _
    omega
  have hc := chk_bounds l
  have hq : chk l = 98 - (100 * rst l) % 97 := by unfold chk; rw [h0]
  obtain ⟨_, e1⟩ := digit_ok (chk l / 10) (by omega)
  obtain ⟨_, e2⟩ := digit_ok (chk l % 10) (by omega)
  have h1 : rst (sealL l) = rstp (rstp (rst l) (UInt8.ofNat (48 + chk l / 10))) (UInt8.ofNat (48 + chk l % 10)) := by
    unfold rst sealL
    rw [rfold_app]; rfl
  have hr := rst_lt l
  rw [h1]
  unfold rstp
  rw [e1, e2, if_pos (by omega), if_pos (by omega)]
  generalize chk l = k at *
  generalize rst l = r at *
  omega
theorem pln_sealL (l : List UInt8) (h : pln l = true) : pln (sealL l) = true := by
  have hc := chk_bounds l
  unfold sealL
  rw [pln_app, h]
  simp only [pln, List.all_cons, List.all_nil, okB, (digit_ok (chk l / 10) (by omega)).1, (digit_ok (chk l % 10) (by omega)).1, Bool.true_or, Bool.and_true]
theorem sealL_length (l : List UInt8) : (sealL l).length = l.length + 2 := by simp [sealL]
theorem seal_parts {l : List UInt8} (h : sealE l = 0) : 1 ≤ l.length ∧ l.length ≤ 46 ∧ pln l = true := by
  unfold sealE at h
  split at h
  · exact absurd h (by decide)
  · split at h
    · rename_i a b; exact ⟨by omega, by omega, b⟩
    · exact absurd h (by decide)
theorem mE_ok {l : List UInt8} (h1 : 1 ≤ l.length) (h2 : l.length ≤ 48) (h3 : pln l = true) : mE l = 0 := by
  unfold mE; rw [if_neg (by omega), if_pos h3]
theorem sealed_seal (l : List UInt8) (h : sealE l = 0) : sealedB (sealL l) = true := by
  obtain ⟨h1, h2, h3⟩ := seal_parts h
  have e := sealL_length l
  have e1 := mE_ok (l := sealL l) (by omega) (by omega) (pln_sealL l h3)
  unfold sealedB mV
  rw [e1, if_pos rfl, rst_sealL]
  simp; omega
/-- One character of a sealed text replaced by one of its kind. -/
theorem sealed_other (l : List UInt8) (h : sealE l = 0) (k : Nat) (hk : k < (sealL l).length) (c : UInt8) (hc : okB c = true) (hl : ltB c = ltB ((sealL l).getD k 0)) :
    sealedB ((sealL l).take k ++ c :: (sealL l).drop (k + 1)) = decide (c = (sealL l).getD k 0) := by
  obtain ⟨h1, h2, h3⟩ := seal_parts h
  have e := sealL_length l
  have hp := pln_sealL l h3
  have hr := rst_sealL l
  generalize sealL l = t at *
  have hd : t.getD k 0 = t[k] := by simp [List.getD, hk]
  rw [hd] at hl ⊢
  have ht : t = t.take k ++ t[k] :: t.drop (k + 1) := by
    conv => lhs; rw [← List.take_append_drop k t, List.drop_eq_getElem_cons hk]
  have hpd : okB t[k] = true := by
    unfold pln at hp; rw [List.all_eq_true] at hp; exact hp _ (List.getElem_mem _)
  have hp2 : pln (t.take k ++ c :: t.drop (k + 1)) = true := by
    unfold pln at hp ⊢
    rw [List.all_eq_true] at hp ⊢
    intro x hx
    rw [List.mem_append, List.mem_cons] at hx
    rcases hx with hx | hx | hx
    · exact hp x (List.mem_of_mem_take hx)
    · rw [hx]; exact hc
    · exact hp x (List.mem_of_mem_drop hx)
  have hlen : (t.take k ++ c :: t.drop (k + 1)).length = t.length := by
    rw [List.length_append, List.length_take, List.length_cons, List.length_drop]; omega
  have e1 := mE_ok (l := t.take k ++ c :: t.drop (k + 1)) (by omega) (by omega) hp2
  unfold sealedB mV
  rw [e1, if_pos rfl, hlen]
  have r1 : rst (t.take k ++ c :: t.drop (k + 1)) = rfold (rstp (rst (t.take k)) c) (t.drop (k + 1)) := by
    unfold rst; rw [rfold_app]; rfl
  have r2 : rst t = rfold (rstp (rst (t.take k)) t[k]) (t.drop (k + 1)) := by
    conv => lhs; rw [ht]
    unfold rst; rw [rfold_app]; rfl
  have key : rst (t.take k ++ c :: t.drop (k + 1)) = 1 ↔ c = t[k] := by
    constructor
    · intro q
      have q2 := q.trans hr.symm
      rw [r1, r2] at q2
      exact rstp_diff _ hc hpd hl (rfold_inj _ (rstp_lt _ _) (rstp_lt _ _) q2)
    · intro q
      rw [r1, q, ← r2, hr]
  have h3l : decide (3 ≤ t.length) = true := by simp; omega
  rw [h3l]
  simp only [decide_true, Bool.true_and]
  exact decide_eq_decide.2 key
/-- The remainder of two texts. -/
def mulS (a : Nat) (c : UInt8) : Nat := if ltB c = true then 10 * (10 * a % 97) % 97 else 10 * a % 97
def mulF (a : Nat) (l : List UInt8) : Nat := l.foldl mulS a
theorem mulS_lt (a : Nat) (c : UInt8) : mulS a c < 97 := by unfold mulS; split <;> omega
theorem mulF_cons (a : Nat) (c : UInt8) (l : List UInt8) : mulF a (c :: l) = mulF (mulS a c) l := rfl
theorem two_texts (l : List UInt8) : pln l = true → ∀ a b : Nat, rfold ((a + b) % 97) l = (mulF a l + rfold b l) % 97 ∨ (l = []) := by
  induction l with
  | nil => intro _ a b; exact Or.inr rfl
  | cons c l ih =>
    intro hp a b
    left
    have hp1 : okB c = true ∧ pln l = true := by simpa [pln] using hp
    have e : rstp ((a + b) % 97) c = (mulS a c + rstp b c) % 97 := by
      unfold rstp mulS
      rcases ok_cases c hp1.1 with ⟨_, a2, a3, a4⟩ | ⟨_, a2, a3, a4⟩
      · rw [if_pos a4, if_pos a4, a2]
        simp only [Bool.false_eq_true, if_false]
        omega
      · have a5 : ¬ c.toNat ≤ 57 := by omega
        rw [if_neg a5, if_neg a5, a2]
        simp only [if_true]
        omega
    rw [rfold_cons, rfold_cons, mulF_cons, e]
    rcases ih hp1.2 (mulS a c) (rstp b c) with h | h
    · exact h
    · subst h; rfl
theorem rst_two (s t : List UInt8) (h : pln t = true) (hn : t ≠ []) : rst (s ++ t) = (mulF (rst s) t + rst t) % 97 := by
  unfold rst
  rw [rfold_app]
  rcases two_texts t h (rfold 0 s) 0 with q | q
  · rw [Nat.add_zero, Nat.mod_eq_of_lt (rfold_lt s 0 (by decide))] at q
    exact q
  · exact absurd q hn
theorem mulF_lt (l : List UInt8) : ∀ a, a < 97 → mulF a l < 97 := by
  induction l with
  | nil => intro a h; exact h
  | cons c l ih => intro a _; exact ih _ (mulS_lt a c)
end Go.Proofs.Ytamnpgcfgjlbeaa.GM
