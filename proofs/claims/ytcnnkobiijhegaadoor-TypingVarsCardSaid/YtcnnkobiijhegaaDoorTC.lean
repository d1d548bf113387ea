/-
  Tokens: contracts of package token's digits, numeral, decimals and of strings.Cut at one byte.
-/
import Derived.Test.YtcnnkobiijhegaaDoorTA
import Derived.Test.YtcnnkobiijhegaaDoorTL
import Derived.Deep.Heap
namespace Go.Proofs.YtcnnkobiijhegaaDoor
open Go Go.RowKit Go.Lib WM TM

theorem kinds_new (w : World) (K : List Int) (t : TypeId) : KindsAt w.heap.size 0 K (w.alloc (.cells (K.map (Value.int IntKind.i64)).toArray t)) := by
  intro j hj
  rw [Nat.zero_add]
  have h : (w.alloc (.cells (K.map (Value.int IntKind.i64)).toArray t)).heap[w.heap.size]? = some (.cells (K.map (Value.int IntKind.i64)).toArray t (0, 0)) := Go.Deep.blk_alloc_new _ _
  rw [cell_of_row _ _ j _ _ (0, 0) h]
  simp [List.getD, hj]

set_option maxRecDepth 100000 in
set_option maxHeartbeats 1000000 in
theorem mdigits (s : ByteArray) (hs : s.size ≤ 9223372036854775806) (w : World) :
    Calls Tryd.prog 60 #[.string s] w fun e w' => e = .returned (.bool (!(byt s).isEmpty && allDig (byt s))) ∧ Below w.heap.size w w' := by
  cases h0 : (byt s).isEmpty
  · have hne : s.toList.isEmpty = false := by rw [toList_data]; exact h0
    have MS := Lib.hid (fun b off c W hW => mspan s hs [5] b off c (by decide) W hW)
    rw [inK_D] at MS
    obtain ⟨B, hB⟩ : ∃ B, allDig (byt s) = B := ⟨_, rfl⟩
    have hq : decide (sp dig (byt s) = s.size) = B := by
      rw [← byt_len, ← hB]
      cases ha : allDig (byt s)
      · rw [decide_eq_false_iff_not, sp_dig_all, ha]; decide
      · rw [decide_eq_true_eq, sp_dig_all, ha]
    rw [hB]
    obtain ⟨N, hN⟩ : ∃ N, sp dig (byt s) = N := ⟨_, rfl⟩
    rw [hN] at hq MS
    clear hB hN h0
    have HK := Lib.hid (kinds_new w [5])
    cases B
    · have hne2 : ((N : Int) == (s.size : Int)) = false := by rw [decide_eq_false_iff_not] at hq; rw [beq_eq_false_iff_ne]; omega
      clear hq
      go_enter Tryd.func60, Tryd.ntmps60
      go_wp2_with fail
      refine (MS.out _ _ _ _ (HK.out _)).mono ?_
      rintro e w1 ⟨rfl, rfl⟩
      go_wp2_with fail
      go_ret
      exact ⟨rfl, bal (bref _) _⟩
    · have hne2 : (N : Int) = (s.size : Int) := by rw [decide_eq_true_eq] at hq; omega
      clear hq
      go_enter Tryd.func60, Tryd.ntmps60
      go_wp2_with fail
      refine (MS.out _ _ _ _ (HK.out _)).mono ?_
      rintro e w1 ⟨rfl, rfl⟩
      go_wp2_with fail
      go_ret
      exact ⟨rfl, bal (bref _) _⟩
  · have hne : s.toList.isEmpty = true := by rw [toList_data]; exact h0
    go_enter Tryd.func60, Tryd.ntmps60
    go_wp2_with fail
    go_ret
    exact ⟨rfl, bref _⟩

theorem numl_alt (l : List UInt8) : numl l = ((!l.isEmpty && allDig l) && ((l == [48]) || l.headD 0 != 48)) := by
  unfold numl
  cases l with
  | nil => rfl
  | cons c t =>
    show (allDig (c :: t) && ((c != 48) || (t.isEmpty && !false))) = ((!false && allDig (c :: t)) && ((c :: t == [48]) || c != 48))
    cases allDig (c :: t)
    · rfl
    · rw [Bool.true_and]
      by_cases h : c = 48
      · subst h
        cases t with
        | nil => rfl
        | cons d t => rfl
      · have h1 : (c != 48) = true := by rw [bne_iff_ne]; exact h
        rw [h1]; simp

set_option maxRecDepth 100000 in
set_option maxHeartbeats 1000000 in
theorem mnumeral (s : ByteArray) (hs : s.size ≤ 9223372036854775806) (w : World) :
    Calls Tryd.prog 51 #[.string s] w fun e w' => e = .returned (.bool (numl (byt s))) ∧ Below w.heap.size w w' := by
  have MD := Lib.hid (mdigits s hs)
  cases h0 : (!(byt s).isEmpty && allDig (byt s))
  · have e : numl (byt s) = false := by rw [numl_alt, h0]; rfl
    rw [e]
    rw [h0] at MD
    clear e
    go_enter Tryd.func51, Tryd.ntmps51
    go_wp2_with fail
    refine (MD.out _).mono ?_
    rintro e w1 ⟨rfl, q1⟩
    have Q1 := Lib.hid q1
    clear q1
    go_wp2_with fail
    go_ret
    exact ⟨rfl, Q1.out⟩
  · have e : numl (byt s) = ((byt s == [48]) || (byt s).headD 0 != 48) := by rw [numl_alt, h0]; rfl
    rw [h0] at MD
    have hne : 0 < s.size := by
      rw [Bool.and_eq_true] at h0
      rw [← byt_len]
      cases hb : byt s with
      | nil => rw [hb] at h0; exact absurd h0.1 (by decide)
      | cons c t => simp
    have hne2 : (0 : Int) < (s.size : Int) := by omega
    have hhd : (byt s).headD 0 = s[0] := by
      cases hb : byt s with
      | nil => rw [← byt_len, hb] at hne; exact absurd hne (by decide)
      | cons c t =>
        have : s[0] = (byt s)[0]'(by rw [byt_len]; exact hne) := rfl
        rw [this]; simp [hb]
    rw [hhd] at e
    rw [e]
    clear e h0 hhd
    cases h1 : (byt s == [48])
    · have g1 : (s.toList == [48]) = false := by rw [toList_data]; exact h1
      cases h2 : (s[0] != 48)
      · have g2 : (s[0].toNat : Int) = 48 := by
          have : s[0] = 48 := by simpa using h2
          rw [this]; rfl
        clear h1 h2
        go_enter Tryd.func51, Tryd.ntmps51
        go_wp2_with fail
        refine (MD.out _).mono ?_
        rintro e w1 ⟨rfl, q1⟩
        have Q1 := Lib.hid q1
        clear q1
        go_wp2_with fail
        go_ret
        exact ⟨rfl, Q1.out⟩
      · have g2 : ((s[0].toNat : Int) != 48) = true := by
          have : s[0] ≠ 48 := by simpa using h2
          rw [bne_iff_ne]
          intro e
          exact this (UInt8.toNat_inj.1 (by rw [show (48 : UInt8).toNat = 48 from rfl]; omega))
        clear h1 h2
        go_enter Tryd.func51, Tryd.ntmps51
        go_wp2_with fail
        refine (MD.out _).mono ?_
        rintro e w1 ⟨rfl, q1⟩
        have Q1 := Lib.hid q1
        clear q1
        go_wp2_with fail
        go_ret
        exact ⟨rfl, Q1.out⟩
    · have g1 : (s.toList == [48]) = true := by rw [toList_data]; exact h1
      clear h1
      go_enter Tryd.func51, Tryd.ntmps51
      go_wp2_with fail
      refine (MD.out _).mono ?_
      rintro e w1 ⟨rfl, q1⟩
      have Q1 := Lib.hid q1
      clear q1
      go_wp2_with fail
      go_ret
      exact ⟨rfl, Q1.out⟩

set_option maxRecDepth 100000 in
set_option maxHeartbeats 1000000 in
theorem mdecimals (s : ByteArray) (hs : s.size ≤ 9223372036854775806) (w : World) :
    Calls Tryd.prog 64 #[.string s] w fun e w' => e = .returned (.bool (deci (byt s))) ∧ Below w.heap.size w w' := by
  have MD := Lib.hid (mdigits s hs)
  have e : deci (byt s) = (decide (s.size ≤ 4) && (!(byt s).isEmpty && allDig (byt s)) && (byt s).getLast? != some 48) := by unfold deci; rw [byt_len]
  rw [e]
  by_cases h0 : s.size ≤ 4
  · rw [decide_eq_true h0]
    have h0z : (s.size : Int) ≤ 4 := by omega
    cases h1 : (!(byt s).isEmpty && allDig (byt s))
    · rw [h1] at MD
      clear e h1
      go_enter Tryd.func64, Tryd.ntmps64
      go_wp2_with fail
      refine (MD.out _).mono ?_
      rintro e w1 ⟨rfl, q1⟩
      have Q1 := Lib.hid q1
      clear q1
      go_wp2_with fail
      go_ret
      exact ⟨rfl, Q1.out⟩
    · rw [h1] at MD
      have hne : 0 < s.size := by
        rw [Bool.and_eq_true] at h1
        rw [← byt_len]
        cases hb : byt s with
        | nil => rw [hb] at h1; exact absurd h1.1 (by decide)
        | cons c t => simp
      have hwr : wrap64 ((s.size : Int) - 1) = ((s.size - 1 : Nat) : Int) := by unfold wrap64; omega
      have hix : (((s.size - 1 : Nat) : Int)) < (s.size : Int) := by omega
      have hls : (byt s).getLast? = some (s[s.size - 1]'(by omega)) := by
        rw [List.getLast?_eq_getElem?, List.getElem?_eq_getElem (by rw [byt_len]; omega)]
        congr 1
      rw [hls]
      clear e h1 hls
      obtain ⟨m, hm⟩ : ∃ m, s.size - 1 = m := ⟨_, rfl⟩
      have hmlt : m < s.size := by omega
      have hgm : ∀ h : s.size - 1 < s.size, s[s.size - 1]'h = s[m]'hmlt := by intro h; simp [hm]
      rw [hgm]
      rw [hm] at hwr hix
      clear hgm
      have hm0 : ¬ (m : Int) < 0 := by omega
      cases h2 : (some s[m] != some 48)
      · have g2 : (s[m].toNat : Int) = 48 := by
          have : s[m] = 48 := by simpa using h2
          rw [this]; rfl
        clear h2
        go_enter Tryd.func64, Tryd.ntmps64
        go_wp2_with fail
        refine (MD.out _).mono ?_
        rintro e w1 ⟨rfl, q1⟩
        have Q1 := Lib.hid q1
        clear q1
        go_wp2_with fail
        go_ret
        exact ⟨rfl, Q1.out⟩
      · have g2 : ((s[m].toNat : Int) != 48) = true := by
          have : s[m] ≠ 48 := by simpa using h2
          rw [bne_iff_ne]
          intro e
          exact this (UInt8.toNat_inj.1 (by rw [show (48 : UInt8).toNat = 48 from rfl]; omega))
        clear h2
        go_enter Tryd.func64, Tryd.ntmps64
        go_wp2_with fail
        refine (MD.out _).mono ?_
        rintro e w1 ⟨rfl, q1⟩
        have Q1 := Lib.hid q1
        clear q1
        go_wp2_with fail
        go_ret
        exact ⟨rfl, Q1.out⟩
  · rw [decide_eq_false h0]
    have h0z : ¬ (s.size : Int) ≤ 4 := by omega
    clear e
    go_enter Tryd.func64, Tryd.ntmps64
    go_wp2_with fail
    go_ret
    exact ⟨rfl, bref _⟩

/-! ### A text cut at a byte -/
def nb (d : UInt8) (c : UInt8) : Bool := c != d
set_option maxRecDepth 100000 in
set_option maxHeartbeats 1000000 in
theorem mcutS (s : ByteArray) (d : UInt8) (hs : s.size ≤ 9223372036854775806) (w : World) :
    Calls Tryd.prog 43 #[.string s, .string ⟨#[d]⟩] w fun e w' => e = .returned (.tuple #[.string (str ((byt s).takeWhile (nb d))), .string (str (((byt s).dropWhile (nb d)).drop 1)), .bool (decide (sp (nb d) (byt s) < (byt s).length))]) ∧ Below w.heap.size w w' := by
  have I := fun W => Tryd.stringslite_Index_one s d W
  have e0 : Lib.indexByte s.data.toList d = if sp (nb d) (byt s) < (byt s).length then ((sp (nb d) (byt s) : Nat) : Int) else -1 := idx_sp d (byt s)
  rw [e0] at I
  have hT : (byt s).takeWhile (nb d) = (byt s).take (sp (nb d) (byt s)) := (take_sp _ _).symm
  have hD : ((byt s).dropWhile (nb d)).drop 1 = (byt s).drop (sp (nb d) (byt s) + 1) := by rw [← drop_sp, List.drop_drop]
  rw [hT, hD]
  obtain ⟨N, hN⟩ : ∃ N, sp (nb d) (byt s) = N := ⟨_, rfl⟩
  rw [hN] at I ⊢
  have hle : N ≤ (byt s).length := by rw [← hN]; exact sp_le _ _
  have hlen := byt_len s
  rw [hlen] at hle I ⊢
  clear hT hD hN e0
  have hd1 : (⟨#[d]⟩ : ByteArray).size = 1 := rfl
  by_cases h : N < s.size
  · rw [if_pos h] at I
    have HI := Lib.hid I
    have HX : Hid (s.extract 0 N = str ((byt s).take N)) := Lib.hid (by rw [str_cut]; rfl)
    have HY : Hid (s.extract (N + 1) s.size = str ((byt s).drop (N + 1))) := Lib.hid (by rw [str_cut, List.take_of_length_le (by rw [size_list]; omega)]; rfl)
    have h1 : (N : Int) ≤ (s.size : Int) := by omega
    have h2 : wrap64 ((N : Int) + 1) = ((N + 1 : Nat) : Int) := by unfold wrap64; omega
    have h3 : ((N + 1 : Nat) : Int) ≤ (s.size : Int) := by omega
    rw [decide_eq_true h]
    obtain ⟨X, hX⟩ : ∃ X, str ((byt s).take N) = X := ⟨_, rfl⟩
    obtain ⟨Y, hY⟩ : ∃ Y, str ((byt s).drop (N + 1)) = Y := ⟨_, rfl⟩
    rw [hX] at HX ⊢
    rw [hY] at HY ⊢
    have HX1 := HX.out
    have HY1 := HY.out
    clear I hX hY hlen hle HX HY
    go_enter Tryd.func43, Tryd.ntmps43
    go_wp2_with fail
    refine (HI.out _).mono ?_
    rintro e w1 ⟨rfl, rfl⟩
    go_wp2_with fail
    go_quiet (fail)
    go_wp2_with fail
    go_ret3
    exact ⟨rfl, bdn (bref _) _⟩
  · rw [if_neg h] at I
    have HI := Lib.hid I
    have e1 : str ((byt s).take N) = s := by rw [List.take_of_length_le (by rw [byt_len]; omega)]; exact str_byt s
    have e2 : (byt s).drop (N + 1) = [] := by rw [List.drop_eq_nil_iff, byt_len]; omega
    rw [decide_eq_false h, e1, e2]
    clear I e1 e2 hlen
    go_enter Tryd.func43, Tryd.ntmps43
    go_wp2_with fail
    refine (HI.out _).mono ?_
    rintro e w1 ⟨rfl, rfl⟩
    go_wp2_with fail
    go_ret3
    exact ⟨rfl, bref _⟩
theorem mcut (s : ByteArray) (d : UInt8) (hs : s.size ≤ 9223372036854775806) (w : World) :
    Calls Tryd.prog 41 #[.string s, .string ⟨#[d]⟩] w fun e w' => e = .returned (.tuple #[.string (str ((byt s).takeWhile (nb d))), .string (str (((byt s).dropWhile (nb d)).drop 1)), .bool (decide (sp (nb d) (byt s) < (byt s).length))]) ∧ Below w.heap.size w w' := by
  have C := mcutS s d hs
  obtain ⟨X, hX⟩ : ∃ X, str ((byt s).takeWhile (nb d)) = X := ⟨_, rfl⟩
  obtain ⟨Y, hY⟩ : ∃ Y, str (((byt s).dropWhile (nb d)).drop 1) = Y := ⟨_, rfl⟩
  obtain ⟨Z, hZ⟩ : ∃ Z, decide (sp (nb d) (byt s) < (byt s).length) = Z := ⟨_, rfl⟩
  rw [hX, hY, hZ] at C ⊢
  clear hX hY hZ
  have HC := Lib.hid C
  clear C
  go_enter Tryd.func41, Tryd.ntmps41
  go_wp2_with fail
  refine (HC.out _).mono ?_
  rintro e w1 ⟨rfl, q1⟩
  have Q1 := Lib.hid q1
  clear q1
  go_wp2_with fail
  go_ret3
  exact ⟨rfl, Q1.out⟩
end Go.Proofs.YtcnnkobiijhegaaDoor
