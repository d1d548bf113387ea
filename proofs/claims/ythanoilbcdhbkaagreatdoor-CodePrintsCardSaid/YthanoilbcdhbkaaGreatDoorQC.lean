/-
  Merged: Tokens: contracts of package token's digits, numeral, decimals and of strings.Cut at one byte. Tokens: a contract of package token's Rate. Tokens: contracts of package token's named and number.
-/
import Derived.Test.YthanoilbcdhbkaaGreatDoorQTA
import Derived.Test.YthanoilbcdhbkaaGreatDoorQA
import Derived.Deep.Heap
namespace Go.Proofs.YthanoilbcdhbkaaGreatDoor
open Go Go.RowKit Go.Lib WM TM

theorem kinds_new (w : World) (K : List Int) (t : TypeId) : KindsAt w.heap.size 0 K (w.alloc (.cells (K.map (Value.int IntKind.i64)).toArray t)) := by
 intro j hj
 rw [Nat.zero_add]
 have h : (w.alloc (.cells (K.map (Value.int IntKind.i64)).toArray t)).heap[w.heap.size]? = some (.cells (K.map (Value.int IntKind.i64)).toArray t (0, 0)) := Go.Deep.blk_alloc_new _ _
 rw [cell_of_row _ _ j _ _ (0, 0) h]
 simp [List.getD, hj]

set_option maxRecDepth 100000 in
set_option maxHeartbeats 1000000 in
theorem mdigits (s : ByteArray) (hs : s.size ≤ 9223372036854775806) (w : World) :
  Calls Tryz.prog 138 #[.string s] w fun e w' => e = .returned (.bool (!(byt s).isEmpty && allDig (byt s))) ∧ Below w.heap.size w w' := by
 cases h0 : (byt s).isEmpty
 ·have hne : s.toList.isEmpty = false := by rw [toList_data]; exact h0
  have MS := Lib.hid (fun b off c W hW => mspan s hs [5] b off c (by decide) W hW)
  rw [inK_D] at MS
  obtain ⟨B, hB⟩ : ∃ B, allDig (byt s) = B := ⟨_, rfl⟩
  have hq : decide (sp dig (byt s) = s.size) = B := by
   rw [← byt_len, ← hB]
   cases ha : allDig (byt s)
   ·rw [decide_eq_false_iff_not, sp_dig_all, ha]; decide
   ·rw [decide_eq_true_eq, sp_dig_all, ha]
  rw [hB]
  obtain ⟨N, hN⟩ : ∃ N, sp dig (byt s) = N := ⟨_, rfl⟩
  rw [hN] at hq MS
  clear hB hN h0
  have HK := Lib.hid (kinds_new w [5])
  cases B
  ·have hne2 : ((N : Int) == (s.size : Int)) = false := by rw [decide_eq_false_iff_not] at hq; rw [beq_eq_false_iff_ne]; omega
   clear hq
   go_enter Tryz.func138, Tryz.ntmps138
   go_wp2_with fail
   refine (MS.out _ _ _ _ (HK.out _)).mono ?_
   rintro e w1 ⟨rfl, rfl⟩
   go_wp2_with fail
   go_ret
   exact ⟨rfl, bal (bref _) _⟩
  ·have hne2 : (N : Int) = (s.size : Int) := by rw [decide_eq_true_eq] at hq; omega
   clear hq
   go_enter Tryz.func138, Tryz.ntmps138
   go_wp2_with fail
   refine (MS.out _ _ _ _ (HK.out _)).mono ?_
   rintro e w1 ⟨rfl, rfl⟩
   go_wp2_with fail
   go_ret
   exact ⟨rfl, bal (bref _) _⟩
 ·have hne : s.toList.isEmpty = true := by rw [toList_data]; exact h0
  go_enter Tryz.func138, Tryz.ntmps138
  go_wp2_with fail
  go_ret
  exact ⟨rfl, bref _⟩

theorem numl_alt (l : List UInt8) : numl l = ((!l.isEmpty && allDig l) && ((l == [48]) || l.headD 0 != 48)) := by
 unfold numl
 cases l with
 | nil => rfl
 | cons c t =>
  show (allDig (c :: t) && ((c != 48) || (t.isEmpty && !false))) = ((!false && allDig (c :: t)) && ((c :: t == [48]) || c != 48))
  cases allDig (c :: t)
  ·rfl
  ·rw [Bool.true_and]
   by_cases h : c = 48
   ·subst h
    cases t with
    | nil => rfl
    | cons d t => rfl
   ·have h1 : (c != 48) = true := by rw [bne_iff_ne]; exact h
    rw [h1]; simp

set_option maxRecDepth 100000 in
set_option maxHeartbeats 1000000 in
theorem mnumeral (s : ByteArray) (hs : s.size ≤ 9223372036854775806) (w : World) :
  Calls Tryz.prog 127 #[.string s] w fun e w' => e = .returned (.bool (numl (byt s))) ∧ Below w.heap.size w w' := by
 have MD := Lib.hid (mdigits s hs)
 cases h0 : (!(byt s).isEmpty && allDig (byt s))
 ·have e : numl (byt s) = false := by rw [numl_alt, h0]; rfl
  rw [e]
  rw [h0] at MD
  clear e
  go_enter Tryz.func127, Tryz.ntmps127
  go_wp2_with fail
  refine (MD.out _).mono ?_
  rintro e w1 ⟨rfl, q1⟩
  have Q1 := Lib.hid q1
  clear q1
  go_wp2_with fail
  go_ret
  exact ⟨rfl, Q1.out⟩
 ·have e : numl (byt s) = ((byt s == [48]) || (byt s).headD 0 != 48) := by rw [numl_alt, h0]; rfl
  rw [h0] at MD
  have hne : 0 < s.size := by
   rw [Bool.and_eq_true] at h0
   rw [← byt_len]
   cases hb : byt s with
   | nil => rw [hb] at h0; exact absurd h0.1 (by decide)
   | cons c t => simp
  have hne2 : (0 : Int) < (s.size : Int) := by omega
  have hhd : (byt s).headD 0 = s[0] := by
   cases hb : byt s with
   | nil => rw [← byt_len, hb] at hne; exact absurd hne (by decide)
   | cons c t =>
    have : s[0] = (byt s)[0]'(by rw [byt_len]; exact hne) := rfl
    rw [this]; simp [hb]
  rw [hhd] at e
  rw [e]
  clear e h0 hhd
  cases h1 : (byt s == [48])
  ·have g1 : (s.toList == [48]) = false := by rw [toList_data]; exact h1
   cases h2 : (s[0] != 48)
   ·have g2 : (s[0].toNat : Int) = 48 := by
     have : s[0] = 48 := by simpa using h2
     rw [this]; rfl
    clear h1 h2
    go_enter Tryz.func127, Tryz.ntmps127
    go_wp2_with fail
    refine (MD.out _).mono ?_
    rintro e w1 ⟨rfl, q1⟩
    have Q1 := Lib.hid q1
    clear q1
    go_wp2_with fail
    go_ret
    exact ⟨rfl, Q1.out⟩
   ·have g2 : ((s[0].toNat : Int) != 48) = true := by
     have : s[0] ≠ 48 := by simpa using h2
     rw [bne_iff_ne]
     intro e
     exact this (UInt8.toNat_inj.1 (by rw [show (48 : UInt8).toNat = 48 from rfl]; omega))
    clear h1 h2
    go_enter Tryz.func127, Tryz.ntmps127
    go_wp2_with fail
    refine (MD.out _).mono ?_
    rintro e w1 ⟨rfl, q1⟩
    have Q1 := Lib.hid q1
    clear q1
    go_wp2_with fail
    go_ret
    exact ⟨rfl, Q1.out⟩
  ·have g1 : (s.toList == [48]) = true := by rw [toList_data]; exact h1
   clear h1
   go_enter Tryz.func127, Tryz.ntmps127
   go_wp2_with fail
   refine (MD.out _).mono ?_
   rintro e w1 ⟨rfl, q1⟩
   have Q1 := Lib.hid q1
   clear q1
   go_wp2_with fail
   go_ret
   exact ⟨rfl, Q1.out⟩

set_option maxRecDepth 100000 in
set_option maxHeartbeats 1000000 in
theorem mdecimals (s : ByteArray) (hs : s.size ≤ 9223372036854775806) (w : World) :
  Calls Tryz.prog 142 #[.string s] w fun e w' => e = .returned (.bool (deci (byt s))) ∧ Below w.heap.size w w' := by
 have MD := Lib.hid (mdigits s hs)
 have e : deci (byt s) = (decide (s.size ≤ 4) && (!(byt s).isEmpty && allDig (byt s)) && (byt s).getLast? != some 48) := by unfold deci; rw [byt_len]
 rw [e]
 by_cases h0 : s.size ≤ 4
 ·rw [decide_eq_true h0]
  have h0z : (s.size : Int) ≤ 4 := by omega
  cases h1 : (!(byt s).isEmpty && allDig (byt s))
  ·rw [h1] at MD
   clear e h1
   go_enter Tryz.func142, Tryz.ntmps142
   go_wp2_with fail
   refine (MD.out _).mono ?_
   rintro e w1 ⟨rfl, q1⟩
   have Q1 := Lib.hid q1
   clear q1
   go_wp2_with fail
   go_ret
   exact ⟨rfl, Q1.out⟩
  ·rw [h1] at MD
   have hne : 0 < s.size := by
    rw [Bool.and_eq_true] at h1
    rw [← byt_len]
    cases hb : byt s with
    | nil => rw [hb] at h1; exact absurd h1.1 (by decide)
    | cons c t => simp
   have hwr : wrap64 ((s.size : Int) - 1) = ((s.size - 1 : Nat) : Int) := by unfold wrap64; omega
   have hix : (((s.size - 1 : Nat) : Int)) < (s.size : Int) := by omega
   have hls : (byt s).getLast? = some (s[s.size - 1]'(by omega)) := by
    rw [List.getLast?_eq_getElem?, List.getElem?_eq_getElem (by rw [byt_len]; omega)]
    congr 1
   rw [hls]
   clear e h1 hls
   obtain ⟨m, hm⟩ : ∃ m, s.size - 1 = m := ⟨_, rfl⟩
   have hmlt : m < s.size := by omega
   have hgm : ∀ h : s.size - 1 < s.size, s[s.size - 1]'h = s[m]'hmlt := by intro h; simp [hm]
   rw [hgm]
   rw [hm] at hwr hix
   clear hgm
   have hm0 : ¬ (m : Int) < 0 := by omega
   cases h2 : (some s[m] != some 48)
   ·have g2 : (s[m].toNat : Int) = 48 := by
     have : s[m] = 48 := by simpa using h2
     rw [this]; rfl
    clear h2
    go_enter Tryz.func142, Tryz.ntmps142
    go_wp2_with fail
    refine (MD.out _).mono ?_
    rintro e w1 ⟨rfl, q1⟩
    have Q1 := Lib.hid q1
    clear q1
    go_wp2_with fail
    go_ret
    exact ⟨rfl, Q1.out⟩
   ·have g2 : ((s[m].toNat : Int) != 48) = true := by
     have : s[m] ≠ 48 := by simpa using h2
     rw [bne_iff_ne]
     intro e
     exact this (UInt8.toNat_inj.1 (by rw [show (48 : UInt8).toNat = 48 from rfl]; omega))
    clear h2
    go_enter Tryz.func142, Tryz.ntmps142
    go_wp2_with fail
    refine (MD.out _).mono ?_
    rintro e w1 ⟨rfl, q1⟩
    have Q1 := Lib.hid q1
    clear q1
    go_wp2_with fail
    go_ret
    exact ⟨rfl, Q1.out⟩
 ·rw [decide_eq_false h0]
  have h0z : ¬ (s.size : Int) ≤ 4 := by omega
  clear e
  go_enter Tryz.func142, Tryz.ntmps142
  go_wp2_with fail
  go_ret
  exact ⟨rfl, bref _⟩

/-! ### A text cut at a byte -/
def nb (d : UInt8) (c : UInt8) : Bool := c != d
set_option maxRecDepth 100000 in
set_option maxHeartbeats 1000000 in
theorem mcutS (s : ByteArray) (d : UInt8) (hs : s.size ≤ 9223372036854775806) (w : World) :
  Calls Tryz.prog 114 #[.string s, .string ⟨#[d]⟩] w fun e w' => e = .returned (.tuple #[.string (str ((byt s).takeWhile (nb d))), .string (str (((byt s).dropWhile (nb d)).drop 1)), .bool (decide (sp (nb d) (byt s) < (byt s).length))]) ∧ Below w.heap.size w w' := by
 have I := fun W => Tryz.stringslite_Index_one s d W
 have e0 : Lib.indexByte s.data.toList d = if sp (nb d) (byt s) < (byt s).length then ((sp (nb d) (byt s) : Nat) : Int) else -1 := idx_sp d (byt s)
 rw [e0] at I
 have hT : (byt s).takeWhile (nb d) = (byt s).take (sp (nb d) (byt s)) := (take_sp _ _).symm
 have hD : ((byt s).dropWhile (nb d)).drop 1 = (byt s).drop (sp (nb d) (byt s) + 1) := by rw [← drop_sp, List.drop_drop]
 rw [hT, hD]
 obtain ⟨N, hN⟩ : ∃ N, sp (nb d) (byt s) = N := ⟨_, rfl⟩
 rw [hN] at I ⊢
 have hle : N ≤ (byt s).length := by rw [← hN]; exact sp_le _ _
 have hlen := byt_len s
 rw [hlen] at hle I ⊢
 clear hT hD hN e0
 have hd1 : (⟨#[d]⟩ : ByteArray).size = 1 := rfl
 by_cases h : N < s.size
 ·rw [if_pos h] at I
  have HI := Lib.hid I
  have HX : Hid (s.extract 0 N = str ((byt s).take N)) := Lib.hid (by rw [str_cut]; rfl)
  have HY : Hid (s.extract (N + 1) s.size = str ((byt s).drop (N + 1))) := Lib.hid (by rw [str_cut, List.take_of_length_le (by rw [size_list]; omega)]; rfl)
  have h1 : (N : Int) ≤ (s.size : Int) := by omega
  have h2 : wrap64 ((N : Int) + 1) = ((N + 1 : Nat) : Int) := by unfold wrap64; omega
  have h3 : ((N + 1 : Nat) : Int) ≤ (s.size : Int) := by omega
  rw [decide_eq_true h]
  obtain ⟨X, hX⟩ : ∃ X, str ((byt s).take N) = X := ⟨_, rfl⟩
  obtain ⟨Y, hY⟩ : ∃ Y, str ((byt s).drop (N + 1)) = Y := ⟨_, rfl⟩
  rw [hX] at HX ⊢
  rw [hY] at HY ⊢
  have HX1 := HX.out
  have HY1 := HY.out
  clear I hX hY hlen hle HX HY
  go_enter Tryz.func114, Tryz.ntmps114
  go_wp2_with fail
  refine (HI.out _).mono ?_
  rintro e w1 ⟨rfl, rfl⟩
  go_wp2_with fail
  go_quiet (fail)
  go_wp2_with fail
  go_ret3
  exact ⟨rfl, bdn (bref _) _⟩
 ·rw [if_neg h] at I
  have HI := Lib.hid I
  have e1 : str ((byt s).take N) = s := by rw [List.take_of_length_le (by rw [byt_len]; omega)]; exact str_byt s
  have e2 : (byt s).drop (N + 1) = [] := by rw [List.drop_eq_nil_iff, byt_len]; omega
  rw [decide_eq_false h, e1, e2]
  clear I e1 e2 hlen
  go_enter Tryz.func114, Tryz.ntmps114
  go_wp2_with fail
  refine (HI.out _).mono ?_
  rintro e w1 ⟨rfl, rfl⟩
  go_wp2_with fail
  go_ret3
  exact ⟨rfl, bref _⟩
theorem mcut (s : ByteArray) (d : UInt8) (hs : s.size ≤ 9223372036854775806) (w : World) :
  Calls Tryz.prog 106 #[.string s, .string ⟨#[d]⟩] w fun e w' => e = .returned (.tuple #[.string (str ((byt s).takeWhile (nb d))), .string (str (((byt s).dropWhile (nb d)).drop 1)), .bool (decide (sp (nb d) (byt s) < (byt s).length))]) ∧ Below w.heap.size w w' := by
 have C := mcutS s d hs
 obtain ⟨X, hX⟩ : ∃ X, str ((byt s).takeWhile (nb d)) = X := ⟨_, rfl⟩
 obtain ⟨Y, hY⟩ : ∃ Y, str (((byt s).dropWhile (nb d)).drop 1) = Y := ⟨_, rfl⟩
 obtain ⟨Z, hZ⟩ : ∃ Z, decide (sp (nb d) (byt s) < (byt s).length) = Z := ⟨_, rfl⟩
 rw [hX, hY, hZ] at C ⊢
 clear hX hY hZ
 have HC := Lib.hid C
 clear C
 go_enter Tryz.func106, Tryz.ntmps106
 go_wp2_with fail
 refine (HC.out _).mono ?_
 rintro e w1 ⟨rfl, q1⟩
 have Q1 := Lib.hid q1
 clear q1
 go_wp2_with fail
 go_ret3
 exact ⟨rfl, Q1.out⟩
end Go.Proofs.YthanoilbcdhbkaaGreatDoor

namespace Go.Proofs.YthanoilbcdhbkaaGreatDoor
open Go Go.RowKit Go.Lib WM TM

def Er (w : World) : Prop := ∃ tp p, w.var? Tryz.prog "strconv.ErrRange" = some #[.iface tp p]
theorem gEr : ∃ g, Tryz.prog.globalNamed "strconv.ErrRange" = some g := ⟨9, by kernel_rfl⟩
theorem Er.keep {w w' : World} (h : Er w) (hb : Below w.heap.size w w') : Er w' := by
 obtain ⟨tp, p, h⟩ := h
 obtain ⟨g, hg⟩ := gEr
 refine ⟨tp, p, ?_⟩
 unfold World.var? at *
 rw [hg] at h ⊢
 simp only [Option.bind_some] at h ⊢
 have hlt : g < w.heap.size := by
  rcases Nat.lt_or_ge g w.heap.size with c | c
  ·exact c
  ·rw [Array.getElem?_eq_none c] at h; simp at h
 rw [hb.block _ hlt]
 exact h
theorem mrepeat (s : ByteArray) (c : UInt8) (k : Nat) (hs : s = ⟨#[c]⟩) (hk : k ≤ 10000) (w : World) :
  Calls Tryz.prog 144 #[.string s, .int .i64 k] w fun e w' => e = .returned (.string (str (List.replicate k c))) ∧ Below w.heap.size w w' := by
 have h1 : s.size = 1 := by rw [hs]; rfl
 have h2 : s.data.toList = [c] := by rw [hs]
 refine (Tryz.strings_Repeat s k w (by omega) (by rw [h1]; omega)).mono fun e w' ⟨he, hw⟩ => ⟨?_, hw⟩
 rw [he, h2, rep_one]; rfl
theorem ratoi (l : List UInt8) (hs : l ≠ []) (ha : allDig l = true) (hl : l.length ≤ 281474976710656) (w : World) (hE : Er w) :
  Calls Tryz.prog 143 #[.string (str l)] w fun e w' => (∃ v er, e = .returned (.tuple #[.int .i64 v, er]) ∧ ((dval l ≤ 9223372036854775807 ∧ v = (dval l : Int) ∧ er = .nilIface) ∨ (¬ dval l ≤ 9223372036854775807 ∧ ∃ t p, er = .iface t p))) ∧ Below w.heap.size w w' := by
 have h0 := atoi_dig l hs ha
 by_cases h : dval l ≤ 9223372036854775807
 ·rw [if_pos h] at h0
  refine (Tryz.strconv_Atoi_ok (str l) (by rw [str_size]; omega) _ (by rw [str_list]; exact h0) w).mono fun e w' ⟨he, hw⟩ => ⟨⟨_, _, he, Or.inl ⟨h, rfl, rfl⟩⟩, ?_⟩
  rcases hw with rfl | ⟨t, rfl⟩
  ·exact bref _
  ·exact Lib.bytesWorld_below _ _ _
 ·rw [if_neg h] at h0
  obtain ⟨tp, p, hv⟩ := hE
  refine (Tryz.strconv_Atoi_range_var (str l) (by rw [str_size]; omega) (by rw [str_list]; exact h0) tp p w hv).mono fun e w' ⟨N, he, _, _, hw⟩ => ⟨⟨_, _, he, Or.inr ⟨h, _, _, rfl⟩⟩, hw⟩

set_option maxRecDepth 100000 in
set_option maxHeartbeats 4000000 in
theorem mrate (s : ByteArray) (hs : s.size ≤ 281474976710600) (w : World) (hE : Er w) :
  Calls Tryz.prog 129 #[.string s] w fun e w' => e = .returned (.tuple #[.int .i64 ((rV (byt s) : Nat) : Int), .int .i64 (rE (byt s))]) ∧ Below w.heap.size w w' := by
 obtain ⟨l, hl⟩ : ∃ l, byt s = l := ⟨_, rfl⟩
 have hlen : l.length = s.size := by rw [← hl]; exact byt_len s
 have CS := fun W => Tryz.strings_CutSuffix s ⟨#[37]⟩ W (by omega)
 have e1 : s.data.toList = l := hl
 have e2 : (⟨#[37]⟩ : ByteArray).data.toList = [37] := rfl
 rw [e1, e2] at CS
 rw [hl]
 have HE := Lib.hid hE
 clear hE
 cases h1 : hasSuffix l [37]
 ·have er : rE l = 2 := by unfold rE rOk; rw [h1]; rfl
  have ev : rV l = 0 := by unfold rV; rw [er]; rfl
  rw [h1] at CS
  have HS := Lib.hid CS
  rw [er, ev]
  clear CS h1 er ev e1 hl
  go_enter Tryz.func129, Tryz.ntmps129
  go_wp2_with fail
  refine (HS.out _).mono ?_
  rintro e w1 ⟨rfl, rfl⟩
  go_wp2_with fail
  go_ret2
  exact ⟨rfl, bref _⟩
 have et : (⟨(trimSuffix l [37]).toArray⟩ : ByteArray) = str (vl l) := by
  unfold trimSuffix; rw [h1]; rfl
 rw [h1, et] at CS
 have HS := Lib.hid CS
 have hvl : (vl l).length ≤ s.size := by unfold vl; rw [List.length_take]; omega
 have hbl : (befo (vl l)).length ≤ (vl l).length := (List.takeWhile_sublist _).length_le
 have hel : (beh (vl l)).length ≤ (vl l).length := by
  unfold beh; rw [List.length_drop]
  have := dw_le npt (vl l); omega
 have CU := fun W => mcut (str (vl l)) 46 (by rw [str_size]; omega) W
 rw [byt_str] at CU
 have CU' : ∀ W, Calls Tryz.prog 106 #[.string (str (vl l)), .string ⟨#[46]⟩] W fun e w' => e = .returned (.tuple #[.string (str (befo (vl l))), .string (str (beh (vl l))), .bool (ptd (vl l))]) ∧ Below W.heap.size W w' := CU
 have HU := Lib.hid CU'
 have MN := fun W => mnumeral (str (befo (vl l))) (by rw [str_size]; omega) W
 have MD := fun W => mdecimals (str (beh (vl l))) (by rw [str_size]; omega) W
 rw [byt_str] at MN MD
 clear CS CU CU' e1 hl et
 cases h2 : numl (befo (vl l))
 ·have er : rE l = 2 := by unfold rE rOk; rw [h1, h2]; rfl
  have ev : rV l = 0 := by unfold rV; rw [er]; rfl
  rw [h2] at MN
  have HN := Lib.hid MN
  rw [er, ev]
  generalize str (vl l) = V at *
  generalize str (befo (vl l)) = A at *
  generalize str (beh (vl l)) = B at *
  generalize ptd (vl l) = P at *
  clear MN MD h1 h2 er ev hvl hbl hel hlen
  go_enter Tryz.func129, Tryz.ntmps129
  go_wp2_with fail
  refine (HS.out _).mono ?_
  rintro e w1 ⟨rfl, rfl⟩
  go_wp2_with fail
  refine (HU.out _).mono ?_
  rintro e w2 ⟨rfl, q2⟩
  have Q2 := Lib.hid q2
  clear q2
  go_wp2_with fail
  refine (HN.out _).mono ?_
  rintro e w3 ⟨rfl, q3⟩
  have Q3 := Lib.hid (btr Q2.out q3)
  clear q3
  go_wp2_with fail
  go_ret2
  exact ⟨rfl, Q3.out⟩
 rw [h2] at MN
 have HN := Lib.hid MN
 clear MN
 -- what stands behind the point
 have main : ∀ (P D : Bool), ptd (vl l) = P → (P = true → deci (beh (vl l)) = D) → (P = false → D = true) →
   Calls Tryz.prog 129 #[.string s] w fun e w' => e = .returned (.tuple #[.int .i64 ((rV l : Nat) : Int), .int .i64 (rE l)]) ∧ Below w.heap.size w w' := by
  intro P D hP hD hPD
  cases D
  ·have hPt : P = true := by cases P; exact absurd (hPD rfl) (by decide); rfl
   subst hPt
   have hd := hD rfl
   have er : rE l = 2 := by unfold rE rOk; rw [h1, h2, hP, hd]; rfl
   have ev : rV l = 0 := by unfold rV; rw [er]; rfl
   rw [hP] at HU
   rw [hd] at MD
   have HD := Lib.hid MD
   rw [er, ev]
   generalize str (vl l) = V at *
   generalize str (befo (vl l)) = A at *
   generalize str (beh (vl l)) = B at *
   clear MD h1 h2 er ev hvl hbl hel hlen hd hD hP hPD
   go_enter Tryz.func129, Tryz.ntmps129
   go_wp2_with fail
   refine (HS.out _).mono ?_
   rintro e w1 ⟨rfl, rfl⟩
   go_wp2_with fail
   refine (HU.out _).mono ?_
   rintro e w2 ⟨rfl, q2⟩
   have Q2 := Lib.hid q2
   clear q2
   go_wp2_with fail
   refine (HN.out _).mono ?_
   rintro e w3 ⟨rfl, q3⟩
   have Q3 := Lib.hid (btr Q2.out q3)
   clear q3
   go_wp2_with fail
   refine (HD.out _).mono ?_
   rintro e w4 ⟨rfl, q4⟩
   have Q4 := Lib.hid (btr Q3.out q4)
   clear q4
   go_wp2_with fail
   go_ret2
   exact ⟨rfl, Q4.out⟩
  ·have hok : rOk l = true := by
    unfold rOk
    rw [h1, h2, hP]
    cases P
    ·rfl
    ·rw [hD rfl]; rfl
   obtain ⟨d, f, hsh, el⟩ := ok_sh hok
   obtain ⟨p1, p2, p3, p4, p5, p6⟩ := sh_parts hsh
   have hv := vl_snoc (d ++ tl f) 37
   rw [← el] at hv
   obtain ⟨b1, b2, b3⟩ := befo_tl f p1
   rw [← hv] at b1 b2 b3
   have hk4 : (beh (vl l)).length ≤ 4 := by rw [b2]; exact p4
   have htx : rTx l = befo (vl l) ++ beh (vl l) ++ zs (4 - (beh (vl l)).length) := rfl
   have hdig : allDig (rTx l) = true := by rw [htx, b1, b2, allDig_app, allDig_app, p1, p5, zs_dig]; rfl
   have hne : rTx l ≠ [] := by
    rw [htx, b1]
    intro e
    rw [List.append_eq_nil_iff, List.append_eq_nil_iff] at e
    exact p3 e.1.1
   have htl : (rTx l).length ≤ 281474976710656 := by
    rw [htx, List.length_append, List.length_append]
    unfold zs
    rw [List.length_replicate]; omega
   have AT := fun W hW => ratoi (rTx l) hne hdig htl W hW
   obtain ⟨U, hUU⟩ : ∃ U, str (befo (vl l)) ++ str (beh (vl l)) = U := ⟨_, rfl⟩
   have hcat : U ++ str (zs (4 - (beh (vl l)).length)) = str (rTx l) := by rw [← hUU, htx, str_app, str_app]
   have z1 : (str (befo (vl l))).size ≤ 281474976710600 := by rw [str_size]; omega
   have z2 : (str (beh (vl l))).size ≤ 4 := by rw [str_size]; omega
   have z3 : U.size ≤ 281474976710604 := by rw [← hUU, ByteArray.size_append]; omega
   have z4 : (str (zs (4 - (beh (vl l)).length))).size ≤ 4 := by rw [str_size]; unfold zs; rw [List.length_replicate]; omega
   have RP := fun W => mrepeat ⟨#[48]⟩ 48 (4 - (beh (vl l)).length) rfl (by omega) W
   have hzz : List.replicate (4 - (beh (vl l)).length) 48 = zs (4 - (beh (vl l)).length) := rfl
   rw [hzz] at RP
   have hsz : (str (beh (vl l))).size = (beh (vl l)).length := str_size _
   have er : rE l = if rN l ≤ 1000000 then 0 else 1 := by unfold rE; rw [hok, if_pos rfl]
   have ev : rV l = if rN l ≤ 1000000 then rN l else 0 := by
    unfold rV; rw [er]
    by_cases q : rN l ≤ 1000000
    ·rw [if_pos q, if_pos q, if_pos rfl]
    ·rw [if_neg q, if_neg q, if_neg (by decide)]
   have hN : dval (rTx l) = rN l := rfl
   rw [hN] at AT
   rw [er, ev]
   rw [hP] at HU
   obtain ⟨k, hk⟩ : ∃ k, 4 - (beh (vl l)).length = k := ⟨_, rfl⟩
   rw [hk] at RP hcat z4
   have hsub : wrap64 (4 - ((str (beh (vl l))).size : Int)) = (k : Int) := by rw [hsz]; unfold wrap64; omega
   have hsub2 : (4 - ((str (beh (vl l))).size : Int)) = (k : Int) := by rw [hsz]; omega
   have hMD : P = true → ∀ W, Calls Tryz.prog 142 #[.string (str (beh (vl l)))] W fun e w' => e = .returned (.bool true) ∧ Below W.heap.size W w' := by
    intro hPt W
    have := MD W
    rw [hD hPt] at this
    exact this
   generalize str (vl l) = V at *
   generalize str (befo (vl l)) = A at *
   generalize str (beh (vl l)) = B at *
   generalize str (zs k) = Z at *
   generalize str (rTx l) = T at *
   generalize rN l = M at *
   obtain ⟨RV, hRV⟩ : ∃ RV : Nat, (if M ≤ 1000000 then M else 0) = RV := ⟨_, rfl⟩
   obtain ⟨RE, hRE⟩ : ∃ RE : Int, (if M ≤ 1000000 then 0 else 1 : Int) = RE := ⟨_, rfl⟩
   rw [hRV, hRE]
   have HRV := Lib.hid hRV
   have HRE := Lib.hid hRE
   clear hRV hRE
   have hU := Lib.hid hcat
   have HRP := Lib.hid RP
   have HAT := Lib.hid AT
   have HMD := Lib.hid hMD
   have hcat2 := hU.out
   clear MD h1 h2 er ev hvl hbl hel hlen hD hP hPD hok hsh el p1 p2 p3 p4 p5 p6 hv b1 b2 b3 hk4 htx hdig hne htl AT RP hzz hsz hN hk hMD hcat
   cases P
   ·go_enter Tryz.func129, Tryz.ntmps129
    go_wp2_with fail
    refine (HS.out _).mono ?_
    rintro e w1 ⟨rfl, rfl⟩
    go_wp2_with fail
    refine (HU.out _).mono ?_
    rintro e w2 ⟨rfl, q2⟩
    have Q2 := Lib.hid q2
    clear q2
    go_wp2_with fail
    refine (HN.out _).mono ?_
    rintro e w3 ⟨rfl, q3⟩
    have Q3 := Lib.hid (btr Q2.out q3)
    clear q3
    go_wp2_with fail
    with_reducible refine (HRP.out _).mono ?_
    rintro e w4 ⟨rfl, q4⟩
    have Q4 := Lib.hid (btr Q3.out q4)
    clear q4
    go_wp2_with fail
    with_reducible refine (HAT.out _ (HE.out.keep Q4.out)).mono ?_
    rintro e w5 ⟨⟨v, er, rfl, hv⟩, q5⟩
    have Q5 := Lib.hid (btr Q4.out q5)
    clear q5
    rcases hv with ⟨hm, rfl, rfl⟩ | ⟨hm, t, p, rfl⟩
    ·by_cases hq : M ≤ 1000000
     ·have hqz : ¬ (1000000 : Int) < (M : Int) := by omega
      have HQ := Lib.hid hq
      clear hm hq
      go_wp2_with fail
      go_ret2
      exact ⟨by rw [← HRV.out, ← HRE.out, if_pos HQ.out, if_pos HQ.out]; rfl, Q5.out⟩
     ·have hqz : (1000000 : Int) < (M : Int) := by omega
      have HQ := Lib.hid hq
      clear hm hq
      go_wp2_with fail
      go_ret2
      exact ⟨by rw [← HRV.out, ← HRE.out, if_neg HQ.out, if_neg HQ.out]; rfl, Q5.out⟩
    ·have hq : ¬ M ≤ 1000000 := by omega
     have HQ := Lib.hid hq
     clear hm hq
     go_wp2_with fail
     go_ret2
     exact ⟨by rw [← HRV.out, ← HRE.out, if_neg HQ.out, if_neg HQ.out]; rfl, Q5.out⟩
   ·go_enter Tryz.func129, Tryz.ntmps129
    go_wp2_with fail
    refine (HS.out _).mono ?_
    rintro e w1 ⟨rfl, rfl⟩
    go_wp2_with fail
    refine (HU.out _).mono ?_
    rintro e w2 ⟨rfl, q2⟩
    have Q2 := Lib.hid q2
    clear q2
    go_wp2_with fail
    refine (HN.out _).mono ?_
    rintro e w3 ⟨rfl, q3⟩
    have Q3 := Lib.hid (btr Q2.out q3)
    clear q3
    go_wp2_with fail
    refine (HMD.out (by simp) _).mono ?_
    rintro e w4 ⟨rfl, q4⟩
    have Q4 := Lib.hid (btr Q3.out q4)
    clear q4
    go_wp2_with fail
    with_reducible refine (HRP.out _).mono ?_
    rintro e w5 ⟨rfl, q5⟩
    have Q5 := Lib.hid (btr Q4.out q5)
    clear q5
    go_wp2_with fail
    with_reducible refine (HAT.out _ (HE.out.keep Q5.out)).mono ?_
    rintro e w6 ⟨⟨v, er, rfl, hv⟩, q6⟩
    have Q6 := Lib.hid (btr Q5.out q6)
    clear q6
    rcases hv with ⟨hm, rfl, rfl⟩ | ⟨hm, t, p, rfl⟩
    ·by_cases hq : M ≤ 1000000
     ·have hqz : ¬ (1000000 : Int) < (M : Int) := by omega
      have HQ := Lib.hid hq
      clear hm hq
      go_wp2_with fail
      go_ret2
      exact ⟨by rw [← HRV.out, ← HRE.out, if_pos HQ.out, if_pos HQ.out]; rfl, Q6.out⟩
     ·have hqz : (1000000 : Int) < (M : Int) := by omega
      have HQ := Lib.hid hq
      clear hm hq
      go_wp2_with fail
      go_ret2
      exact ⟨by rw [← HRV.out, ← HRE.out, if_neg HQ.out, if_neg HQ.out]; rfl, Q6.out⟩
    ·have hq : ¬ M ≤ 1000000 := by omega
     have HQ := Lib.hid hq
     clear hm hq
     go_wp2_with fail
     go_ret2
     exact ⟨by rw [← HRV.out, ← HRE.out, if_neg HQ.out, if_neg HQ.out]; rfl, Q6.out⟩
 cases hP : ptd (vl l)
 ·exact main false true hP (fun h => absurd h (by decide)) (fun _ => rfl)
 ·exact main true (deci (beh (vl l))) hP (fun _ => rfl) (fun h => absurd h (by decide))
end Go.Proofs.YthanoilbcdhbkaaGreatDoor

namespace Go.Proofs.YthanoilbcdhbkaaGreatDoor
open Go Go.RowKit Go.Lib WM TM

def tokV (k ln : Int) (x : List UInt8) : Value := .agg #[.int .i64 k, .int .i64 ln, .string (str x)]
def nmK (x : List UInt8) : Int := if nmerr x = 0 then (if wrd x = true then 5 else 1) else 0
def nmX (x : List UInt8) : List UInt8 := if nmerr x = 0 then x else []
def nuK (x : List UInt8) : Int := if nerr x = 0 then (if numl x = true then 2 else 3) else 0
def nuX (x : List UInt8) : List UInt8 := if nerr x = 0 then x else []

set_option maxRecDepth 100000 in
set_option maxHeartbeats 1000000 in
theorem mnamed (s : ByteArray) (w : World) :
  Calls Tryz.prog 115 #[.string s] w fun e w' => e = .returned (.tuple #[tokV (nmK (byt s)) 0 (nmX (byt s)), .int .i64 (nmerr (byt s))]) ∧ Below w.heap.size w w' := by
 have MW := mword s
 have hs := str_byt s
 have hl := byt_len s
 cases h1 : wrd (byt s)
 ·rw [h1] at MW
  have HW := Lib.hid MW
  by_cases h2 : 16 < s.size
  ·have e1 : nmerr (byt s) = 4 := by unfold nmerr; rw [h1, hl, if_neg (by decide), if_pos h2]
   have e2 : nmK (byt s) = 0 := by unfold nmK; rw [e1]; rfl
   have e3 : nmX (byt s) = [] := by unfold nmX; rw [e1]; rfl
   have h2z : (16 : Int) < (s.size : Int) := by omega
   rw [e1, e2, e3]
   clear MW h1 e1 e2 e3 hl hs h2
   go_enter Tryz.func115, Tryz.ntmps115
   go_wp2_with fail
   refine (HW.out _).mono ?_
   rintro e w1 ⟨rfl, rfl⟩
   go_wp2_with fail
   refine bodyPost_ret (v := .tuple #[tokV 0 0 [], .int .i64 4]) (by simp [results, Tryz.results115, go_sem, tokV, str_nil]) rfl ⟨rfl, ?_⟩
   (repeat (first | exact bref _ | refine bdr ?_ | refine bal ?_ _ | refine bset ?_ (by simp; done) _))
  ·have e1 : nmerr (byt s) = 0 := by unfold nmerr; rw [h1, hl, if_neg (by decide), if_neg h2]
   have e2 : nmK (byt s) = 1 := by unfold nmK; rw [e1, h1]; rfl
   have e3 : nmX (byt s) = byt s := by unfold nmX; rw [e1]; rfl
   have h2z : ¬ (16 : Int) < (s.size : Int) := by omega
   have HV : Hid (tokV 1 0 (byt s) = .agg #[.int .i64 1, .int .i64 0, .string s]) := Lib.hid (by unfold tokV; rw [hs])
   rw [e1, e2, e3]
   clear MW h1 e1 e2 e3 hl hs h2
   go_enter Tryz.func115, Tryz.ntmps115
   go_wp2_with fail
   refine (HW.out _).mono ?_
   rintro e w1 ⟨rfl, rfl⟩
   go_wp2_with fail
   refine bodyPost_ret (v := .tuple #[.agg #[.int .i64 1, .int .i64 0, .string s], .int .i64 0]) (by simp [results, Tryz.results115, go_sem]) rfl ⟨by rw [HV.out], ?_⟩
   (repeat (first | exact bref _ | refine bdr ?_ | refine bal ?_ _ | refine bset ?_ (by simp; done) _))
 ·rw [h1] at MW
  have HW := Lib.hid MW
  have e1 : nmerr (byt s) = 0 := by unfold nmerr; rw [h1]; rfl
  have e2 : nmK (byt s) = 5 := by unfold nmK; rw [e1, h1]; rfl
  have e3 : nmX (byt s) = byt s := by unfold nmX; rw [e1]; rfl
  have HV : Hid (tokV 5 0 (byt s) = .agg #[.int .i64 5, .int .i64 0, .string s]) := Lib.hid (by unfold tokV; rw [hs])
  rw [e1, e2, e3]
  clear MW h1 e1 e2 e3 hl hs
  go_enter Tryz.func115, Tryz.ntmps115
  go_wp2_with fail
  refine (HW.out _).mono ?_
  rintro e w1 ⟨rfl, rfl⟩
  go_wp2_with fail
  refine bodyPost_ret (v := .tuple #[.agg #[.int .i64 5, .int .i64 0, .string s], .int .i64 0]) (by simp [results, Tryz.results115, go_sem]) rfl ⟨by rw [HV.out], ?_⟩
  (repeat (first | exact bref _ | refine bdr ?_ | refine bal ?_ _ | refine bset ?_ (by simp; done) _))

def Own3 (w : World) (b : Nat) (x y z : Value) : Prop := w.cell? ⟨b, 0, none⟩ = some x ∧ w.cell? ⟨b, 1, none⟩ = some y ∧ w.cell? ⟨b, 2, none⟩ = some z ∧ w.frozen? ⟨b, 0, none⟩ = false ∧ w.frozen? ⟨b, 1, none⟩ = false ∧ w.frozen? ⟨b, 2, none⟩ = false
theorem Own3.keep {W w1 : World} {b : Nat} {x y z : Value} (h : Own3 W b x y z) (hb : Below W.heap.size W w1) : Own3 w1 b x y z :=
 ⟨keepc hb h.1, keepc hb h.2.1, keepc hb h.2.2.1, keepf hb h.1 h.2.2.2.1, keepf hb h.2.1 h.2.2.2.2.1, keepf hb h.2.2.1 h.2.2.2.2.2⟩
theorem set_same (W : World) (p : Addr) (v : Value) (h : (W.cell? p).isSome = true) : (W.setCell p v).cell? p = some v := by
 obtain ⟨x, hx⟩ := Option.isSome_iff_exists.1 h
 exact World.cell?_setCell_same _ _ _ hx
theorem Own3.lt {W : World} {b : Nat} {x y z : Value} (h : Own3 W b x y z) : b < W.heap.size := World.block_lt_of_cell? W _ h.1
theorem Own3.new (W : World) (x y z : Value) (t : TypeId) : Own3 (W.alloc (.cells #[x, y, z] t)) W.heap.size x y z := by
 refine ⟨?_, ?_, ?_, ?_, ?_, ?_⟩ <;> simp [go_sem]
theorem rparse (s : ByteArray) (hs : byt s ≠ []) (ha : allDig (byt s) = true) (hl : s.size ≤ 281474976710656) (w : World) (hE : Er w) :
  Calls Tryz.prog 128 #[.string s, .int .i64 10, .int .i64 64] w fun e w' => (∃ v er, e = .returned (.tuple #[.int .i64 v, er]) ∧ ((dval (byt s) ≤ 9223372036854775807 ∧ er = .nilIface) ∨ (¬ dval (byt s) ≤ 9223372036854775807 ∧ ∃ t p, er = .iface t p))) ∧ Below w.heap.size w w' := by
 have h0 := parse64_dig (byt s) hs ha
 by_cases h : dval (byt s) ≤ 9223372036854775807
 ·rw [if_pos h] at h0
  refine (Tryz.strconv_ParseInt_10_at64_ok s (by omega) _ h0 w).mono fun e w' ⟨he, hw⟩ => ⟨⟨_, _, he, Or.inl ⟨h, rfl⟩⟩, ?_⟩
  rcases hw with rfl | ⟨t, rfl⟩
  ·exact bref _
  ·exact Lib.bytesWorld_below _ _ _
 ·rw [if_neg h] at h0
  obtain ⟨tp, p, hv⟩ := hE
  refine (Tryz.strconv_ParseInt_10_at64_range_var s (by omega) h0 tp p w hv).mono fun e w' ⟨N, he, _, _, hw⟩ => ⟨⟨_, _, he, Or.inr ⟨h, _, _, rfl⟩⟩, hw⟩

set_option maxRecDepth 100000 in
set_option maxHeartbeats 1000000 in
theorem mnumber (s : ByteArray) (hs : s.size ≤ 281474976710600) (w : World) (hE : Er w) :
  Calls Tryz.prog 117 #[.string s] w fun e w' => e = .returned (.tuple #[tokV (nuK (byt s)) 0 (nuX (byt s)), .int .i64 (nerr (byt s))]) ∧ Below w.heap.size w w' := by
 have MN := fun W => mnumeral s (by omega) W
 have hss := str_byt s
 have HE := Lib.hid hE
 clear hE
 have HB : ∀ {x y z : Value} {t : TypeId}, Own3 (w.alloc (.cells #[x, y, z] t)) w.heap.size x y z := fun {x y z t} => Own3.new w x y z t
 cases h1 : numl (byt s)
 ·rw [h1] at MN
  have HN := Lib.hid MN
  have MR := Lib.hid (fun W hW => mrate s hs W hW)
  have c3 : rE (byt s) = 0 ∨ rE (byt s) = 1 ∨ rE (byt s) = 2 := by
   unfold rE
   split
   ·split
    ·exact Or.inl rfl
    ·exact Or.inr (Or.inl rfl)
   ·exact Or.inr (Or.inr rfl)
  obtain ⟨RV, hRV⟩ : ∃ RV, rV (byt s) = RV := ⟨_, rfl⟩
  rw [hRV] at MR
  rcases c3 with h2 | h2 | h2
  ·have e1 : nerr (byt s) = 0 := by unfold nerr; rw [h1, h2]; rfl
   have e2 : nuK (byt s) = 3 := by unfold nuK; rw [e1, h1]; rfl
   have e3 : nuX (byt s) = byt s := by unfold nuX; rw [e1]; rfl
   have HV : Hid (tokV 3 0 (byt s) = .agg #[.int .i64 3, .int .i64 0, .string s]) := Lib.hid (by unfold tokV; rw [hss])
   rw [e1, e2, e3]
   rw [h2] at MR
   clear MN h1 h2 e1 e2 e3 hss hRV
   go_enter Tryz.func117, Tryz.ntmps117
   go_wp2_with fail
   refine (HN.out _).mono ?_
   rintro e w1 ⟨rfl, q1⟩
   have X1 := Own3.keep HB q1
   have Q1 := Lib.hid (btr (by repeat (first | exact bref _ | refine bdr ?_ | refine bal ?_ _)) q1 : Below w.heap.size w w1)
   have s1 := X1.lt
   obtain ⟨x0, x1, x2, x3, x4, x5⟩ := X1
   go_wp2_with fail
   refine (MR.out _ (HE.out.keep Q1.out)).mono ?_
   rintro e w2 ⟨rfl, q2⟩
   have X2 := Own3.keep ⟨x0, x1, x2, x3, x4, x5⟩ q2
   have Q2 := Lib.hid (btr Q1.out q2)
   have s2 := X2.lt
   clear x0 x1 x2 x3 x4 x5 q2
   obtain ⟨x0, x1, x2, x3, x4, x5⟩ := X2
   go_wp2_with fail
   refine bodyPost_ret (v := .tuple #[.agg #[.int .i64 3, .int .i64 0, .string s], .int .i64 0]) (by simp [results, Tryz.results117, go_sem, set_same, x0, x1, x2]) rfl ⟨by rw [HV.out], ?_⟩
   (repeat (first | exact Q2.out | refine bdr ?_ | refine bal ?_ _ | refine bset ?_ (by simp; done) _))
  ·have e1 : nerr (byt s) = 6 := by unfold nerr; rw [h1, h2]; rfl
   have e2 : nuK (byt s) = 0 := by unfold nuK; rw [e1]; rfl
   have e3 : nuX (byt s) = [] := by unfold nuX; rw [e1]; rfl
   rw [e1, e2, e3]
   rw [h2] at MR
   clear MN h1 h2 e1 e2 e3 hss hRV
   go_enter Tryz.func117, Tryz.ntmps117
   go_wp2_with fail
   refine (HN.out _).mono ?_
   rintro e w1 ⟨rfl, q1⟩
   have X1 := Own3.keep HB q1
   have Q1 := Lib.hid (btr (by repeat (first | exact bref _ | refine bdr ?_ | refine bal ?_ _)) q1 : Below w.heap.size w w1)
   have s1 := X1.lt
   obtain ⟨x0, x1, x2, x3, x4, x5⟩ := X1
   go_wp2_with fail
   refine (MR.out _ (HE.out.keep Q1.out)).mono ?_
   rintro e w2 ⟨rfl, q2⟩
   have X2 := Own3.keep ⟨x0, x1, x2, x3, x4, x5⟩ q2
   have Q2 := Lib.hid (btr Q1.out q2)
   have s2 := X2.lt
   clear x0 x1 x2 x3 x4 x5 q2
   obtain ⟨x0, x1, x2, x3, x4, x5⟩ := X2
   go_wp2_with fail
   refine bodyPost_ret (v := .tuple #[tokV 0 0 [], .int .i64 6]) (by simp [results, Tryz.results117, go_sem, tokV, str_nil, set_same, x0, x1, x2]) rfl ⟨rfl, ?_⟩
   (repeat (first | exact Q2.out | refine bdr ?_ | refine bal ?_ _ | refine bset ?_ (by simp; done) _))
  ·have e1 : nerr (byt s) = 2 := by unfold nerr; rw [h1, h2]; rfl
   have e2 : nuK (byt s) = 0 := by unfold nuK; rw [e1]; rfl
   have e3 : nuX (byt s) = [] := by unfold nuX; rw [e1]; rfl
   rw [e1, e2, e3]
   rw [h2] at MR
   clear MN h1 h2 e1 e2 e3 hss hRV
   go_enter Tryz.func117, Tryz.ntmps117
   go_wp2_with fail
   refine (HN.out _).mono ?_
   rintro e w1 ⟨rfl, q1⟩
   have X1 := Own3.keep HB q1
   have Q1 := Lib.hid (btr (by repeat (first | exact bref _ | refine bdr ?_ | refine bal ?_ _)) q1 : Below w.heap.size w w1)
   have s1 := X1.lt
   obtain ⟨x0, x1, x2, x3, x4, x5⟩ := X1
   go_wp2_with fail
   refine (MR.out _ (HE.out.keep Q1.out)).mono ?_
   rintro e w2 ⟨rfl, q2⟩
   have X2 := Own3.keep ⟨x0, x1, x2, x3, x4, x5⟩ q2
   have Q2 := Lib.hid (btr Q1.out q2)
   have s2 := X2.lt
   clear x0 x1 x2 x3 x4 x5 q2
   obtain ⟨x0, x1, x2, x3, x4, x5⟩ := X2
   go_wp2_with fail
   refine bodyPost_ret (v := .tuple #[tokV 0 0 [], .int .i64 2]) (by simp [results, Tryz.results117, go_sem, tokV, str_nil, set_same, x0, x1, x2]) rfl ⟨rfl, ?_⟩
   (repeat (first | exact Q2.out | refine bdr ?_ | refine bal ?_ _ | refine bset ?_ (by simp; done) _))
 ·rw [h1] at MN
  have HN := Lib.hid MN
  obtain ⟨ha, hsh⟩ := numl_parts h1
  have MP := Lib.hid (fun W hW => rparse s (short_ne hsh) ha (by omega) W hW)
  by_cases hm : dval (byt s) ≤ 9223372036854775807
  ·have e1 : nerr (byt s) = 0 := by unfold nerr; rw [h1, if_pos rfl, if_pos hm]
   have e2 : nuK (byt s) = 2 := by unfold nuK; rw [e1, h1]; rfl
   have e3 : nuX (byt s) = byt s := by unfold nuX; rw [e1]; rfl
   have HV : Hid (tokV 2 0 (byt s) = .agg #[.int .i64 2, .int .i64 0, .string s]) := Lib.hid (by unfold tokV; rw [hss])
   have HM := Lib.hid hm
   rw [e1, e2, e3]
   clear MN h1 e1 e2 e3 hss ha hsh hm
   go_enter Tryz.func117, Tryz.ntmps117
   go_wp2_with fail
   refine (HN.out _).mono ?_
   rintro e w1 ⟨rfl, q1⟩
   have X1 := Own3.keep HB q1
   have Q1 := Lib.hid (btr (by repeat (first | exact bref _ | refine bdr ?_ | refine bal ?_ _)) q1 : Below w.heap.size w w1)
   have s1 := X1.lt
   obtain ⟨x0, x1, x2, x3, x4, x5⟩ := X1
   go_wp2_with fail
   refine (MP.out _ (HE.out.keep Q1.out)).mono ?_
   rintro e w2 ⟨⟨v, er, rfl, hv⟩, q2⟩
   have X2 := Own3.keep ⟨x0, x1, x2, x3, x4, x5⟩ q2
   have Q2 := Lib.hid (btr Q1.out q2)
   have s2 := X2.lt
   clear x0 x1 x2 x3 x4 x5 q2
   obtain ⟨x0, x1, x2, x3, x4, x5⟩ := X2
   rcases hv with ⟨hm, rfl⟩ | ⟨hm, _⟩
   ·clear hm
    go_wp2_with fail
    refine bodyPost_ret (v := .tuple #[.agg #[.int .i64 2, .int .i64 0, .string s], .int .i64 0]) (by simp [results, Tryz.results117, go_sem, set_same, x0, x1, x2]) rfl ⟨by rw [HV.out], ?_⟩
    (repeat (first | exact Q2.out | refine bdr ?_ | refine bal ?_ _ | refine bset ?_ (by simp; done) _))
   ·exact absurd HM.out hm
  ·have e1 : nerr (byt s) = 6 := by unfold nerr; rw [h1, if_pos rfl, if_neg hm]
   have e2 : nuK (byt s) = 0 := by unfold nuK; rw [e1]; rfl
   have e3 : nuX (byt s) = [] := by unfold nuX; rw [e1]; rfl
   have HM := Lib.hid hm
   rw [e1, e2, e3]
   clear MN h1 e1 e2 e3 hss ha hsh hm
   go_enter Tryz.func117, Tryz.ntmps117
   go_wp2_with fail
   refine (HN.out _).mono ?_
   rintro e w1 ⟨rfl, q1⟩
   have X1 := Own3.keep HB q1
   have Q1 := Lib.hid (btr (by repeat (first | exact bref _ | refine bdr ?_ | refine bal ?_ _)) q1 : Below w.heap.size w w1)
   have s1 := X1.lt
   obtain ⟨x0, x1, x2, x3, x4, x5⟩ := X1
   go_wp2_with fail
   refine (MP.out _ (HE.out.keep Q1.out)).mono ?_
   rintro e w2 ⟨⟨v, er, rfl, hv⟩, q2⟩
   have X2 := Own3.keep ⟨x0, x1, x2, x3, x4, x5⟩ q2
   have Q2 := Lib.hid (btr Q1.out q2)
   have s2 := X2.lt
   clear x0 x1 x2 x3 x4 x5 q2
   obtain ⟨x0, x1, x2, x3, x4, x5⟩ := X2
   rcases hv with ⟨hm, rfl⟩ | ⟨hm, t, p, rfl⟩
   ·exact absurd hm HM.out
   ·clear hm
    go_wp2_with fail
    refine bodyPost_ret (v := .tuple #[tokV 0 0 [], .int .i64 6]) (by simp [results, Tryz.results117, go_sem, tokV, str_nil, set_same, x0, x1, x2]) rfl ⟨rfl, ?_⟩
    (repeat (first | exact Q2.out | refine bdr ?_ | refine bal ?_ _ | refine bset ?_ (by simp; done) _))
end Go.Proofs.YthanoilbcdhbkaaGreatDoor
