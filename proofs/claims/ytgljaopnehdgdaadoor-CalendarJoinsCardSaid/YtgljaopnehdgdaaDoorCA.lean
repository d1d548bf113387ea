/-
  Contracts of the short functions on lists and names of package calendar, and of the document's own.
-/
import Derived.Test.YtgljaopnehdgdaaDoorDD
import Derived.Test.YtgljaopnehdgdaaDoorCJ
namespace Go.Proofs.YtgljaopnehdgdaaDoor
open Go Go.RowKit Go.Lib WM

/-- The numbers of a list lie behind its address. -/
def IntsAt (ao : Option Addr) (zs : List Int) (w : World) : Prop := ∀ i, i < zs.length → ∃ b off, ao = some ⟨b, off, none⟩ ∧ b < w.heap.size ∧ w.cell? ⟨b, off + i, none⟩ = some (.int .i64 (zs.getD i 0))
theorem IntsAt.keep {ao : Option Addr} {zs : List Int} {w w' : World} (h : IntsAt ao zs w) (hb : Below w.heap.size w w') : IntsAt ao zs w' := by
  intro i hi
  obtain ⟨b, off, e, hbw, c⟩ := h i hi
  exact ⟨b, off, e, by have := hb.size; omega, (hb.cell (p := ⟨b, off + i, none⟩) hbw).trans c⟩
theorem IntsAt.nil (ao : Option Addr) (w : World) : IntsAt ao [] w := fun _ hi => absurd hi (Nat.not_lt_zero _)
theorem drop_i (l : List Int) (k : Nat) (h : k < l.length) : l.drop k = l.getD k 0 :: l.drop (k + 1) := by
  rw [List.drop_eq_getElem_cons h]
  simp [List.getD, h]
theorem size_list (s : ByteArray) : s.data.toList.length = s.size := by rw [Array.length_toList]; rfl
theorem drop_s (s : ByteArray) (k : Nat) (h : k < s.size) : s.data.toList.drop k = s[k] :: s.data.toList.drop (k + 1) := by
  rw [List.drop_eq_getElem_cons (by rw [size_list]; exact h)]; rfl

set_option maxHeartbeats 1000000 in
theorem rhas (ao : Option Addr) (cap : Nat) (zs : List Int) (n : Int) (w : World) (hl : zs.length ≤ 1000000) (hc : IntsAt ao zs w) :
    Calls Tryd.prog 43 #[.slice ao zs.length cap, .int .i64 n] w fun e w' => e = .returned (.bool (zs.contains n)) ∧ w = w' := by
  obtain ⟨R, hR⟩ : ∃ R, zs.contains n = R := ⟨_, rfl⟩
  rw [hR]
  have HR := Lib.hid hR
  have HC := Lib.hid hc
  clear hR hc
  go_enter Tryd.func43, Tryd.ntmps43
  go_wp2_with fail
  go_loopw [5] (fun i wr => ∃ k : Nat, k ≤ zs.length ∧ i = .int .i64 k ∧ (zs.drop k).contains n = R ∧ wr = w) (fun i _ => zs.length - (RowKit.intOf i).toNat)
  case atStart => exact ⟨0, by omega, rfl, by rw [List.drop_zero]; exact HR.out, rfl⟩
  case round =>
    obtain ⟨k, hk, rfl, hh, rfl⟩ := hrel
    by_cases hlt : k < zs.length
    · obtain ⟨b, off, rfl, hbw, c0⟩ := HC.out k hlt
      obtain ⟨x, hx⟩ : ∃ x, zs.getD k 0 = x := ⟨_, rfl⟩
      rw [drop_i zs k hlt, List.contains_cons, hx] at hh
      rw [hx] at c0
      have hkz : (k : Int) < (zs.length : Int) := by omega
      by_cases hq : x = n
      · subst hq
        have HRR : Hid (R = true) := Lib.hid (by rw [← hh]; simp)
        clear hh hx
        go_wp2_with fail
        go_ret
        exact ⟨by rw [HRR.out]; rfl, rfl⟩
      · have hq1 : (x == n) = false := by rw [beq_eq_false_iff_ne]; exact hq
        have HH : Hid ((zs.drop (k + 1)).contains n = R) := Lib.hid (by
          have : (n == x) = false := by rw [beq_eq_false_iff_ne]; exact fun e => hq e.symm
          rw [this, Bool.false_or] at hh; exact hh)
        clear hh hx
        go_wp2_with fail
        go_roundw
        case rel => exact ⟨k + 1, hlt, by go_num, HH.out, by first | trivial | rfl⟩
        case measure => simp [RowKit.intOf]; omega
    · have he : k = zs.length := by omega
      subst he
      have HRR : Hid (R = false) := Lib.hid (by rw [← hh, List.drop_length]; rfl)
      clear hh
      go_wp2_with fail
      go_ret
      exact ⟨by rw [HRR.out]; rfl, rfl⟩

set_option maxHeartbeats 1000000 in
theorem mwithin (ao : Option Addr) (cap : Nat) (zs : List Int) (m : Int) (w : World) (hl : zs.length ≤ 1000000) (hc : IntsAt ao zs w) :
    Calls Tryd.prog 34 #[.slice ao zs.length cap, .int .i64 m] w fun e w' => e = .returned (.bool (zs.all (inB m))) ∧ w = w' := by
  obtain ⟨R, hR⟩ : ∃ R, zs.all (inB m) = R := ⟨_, rfl⟩
  rw [hR]
  have HR := Lib.hid hR
  have HC := Lib.hid hc
  clear hR hc
  go_enter Tryd.func34, Tryd.ntmps34
  go_wp2_with fail
  go_loopw [9] (fun i wr => ∃ k : Nat, k ≤ zs.length ∧ i = .int .i64 k ∧ (zs.drop k).all (inB m) = R ∧ wr = w) (fun i _ => zs.length - (RowKit.intOf i).toNat)
  case atStart => exact ⟨0, by omega, rfl, by rw [List.drop_zero]; exact HR.out, rfl⟩
  case round =>
    obtain ⟨k, hk, rfl, hh, rfl⟩ := hrel
    by_cases hlt : k < zs.length
    · obtain ⟨b, off, rfl, hbw, c0⟩ := HC.out k hlt
      obtain ⟨x, hx⟩ : ∃ x, zs.getD k 0 = x := ⟨_, rfl⟩
      rw [drop_i zs k hlt, List.all_cons, hx] at hh
      rw [hx] at c0
      have hkz : (k : Int) < (zs.length : Int) := by omega
      by_cases hq : x < 0
      · have HRR : Hid (R = false) := Lib.hid (by
          have : inB m x = false := by simp [inB]; omega
          rw [← hh, this]; rfl)
        clear hh hx
        go_wp2_with fail
        go_ret
        exact ⟨by rw [HRR.out]; rfl, rfl⟩
      · by_cases hq2 : m < x
        · have HRR : Hid (R = false) := Lib.hid (by
            have : inB m x = false := by simp [inB]; omega
            rw [← hh, this]; rfl)
          clear hh hx
          go_wp2_with fail
          go_ret
          exact ⟨by rw [HRR.out]; rfl, rfl⟩
        · have HH : Hid ((zs.drop (k + 1)).all (inB m) = R) := Lib.hid (by
            have : inB m x = true := by simp [inB]; omega
            rw [this, Bool.true_and] at hh; exact hh)
          clear hh hx
          go_wp2_with fail
          go_roundw
          case rel => exact ⟨k + 1, hlt, by go_num, HH.out, by first | trivial | rfl⟩
          case measure => simp [RowKit.intOf]; omega
    · have he : k = zs.length := by omega
      subst he
      have HRR : Hid (R = true) := Lib.hid (by rw [← hh, List.drop_length]; rfl)
      clear hh
      go_wp2_with fail
      go_ret
      exact ⟨by rw [HRR.out]; rfl, rfl⟩

/-- So far each number is greater than the one before it. -/
def UpTo (zs : List Int) (k : Nat) : Prop := ∀ i, 1 ≤ i → i < k → zs.getD (i - 1) 0 < zs.getD i 0
theorem UpTo.next {zs : List Int} {k : Nat} (h : UpTo zs k) (hk : zs.getD (k - 1) 0 < zs.getD k 0) : UpTo zs (k + 1) := by
  intro i h1 h2
  by_cases e : i = k
  · subst e; exact hk
  · exact h i h1 (by omega)

set_option maxHeartbeats 1000000 in
theorem mascend (ao : Option Addr) (cap : Nat) (zs : List Int) (w : World) (hl : zs.length ≤ 1000000) (hc : IntsAt ao zs w) :
    Calls Tryd.prog 35 #[.slice ao zs.length cap] w fun e w' => e = .returned (.bool (risesB zs)) ∧ ∃ n, w' = w.drewN n := by
  obtain ⟨R, hR⟩ : ∃ R, risesB zs = R := ⟨_, rfl⟩
  rw [hR]
  have HR := Lib.hid hR
  have HC := Lib.hid hc
  clear hR hc
  go_enter Tryd.func35, Tryd.ntmps35
  go_wp2_with fail
  go_loopw [3] (fun i wr => ∃ k n : Nat, 1 ≤ k ∧ (k ≤ zs.length ∨ k = 1) ∧ i = .int .i64 k ∧ UpTo zs k ∧ wr = w.drewN n) (fun i _ => zs.length - (RowKit.intOf i).toNat)
  case atStart => exact ⟨1, 0, by omega, Or.inr rfl, rfl, fun _ _ _ => by omega, rfl⟩
  case round =>
    obtain ⟨k, n, hk1, hk, rfl, hh, rfl⟩ := hrel
    have HH := Lib.hid hh
    clear hh
    by_cases hlt : k < zs.length
    · obtain ⟨b, off, rfl, hbw, c0⟩ := HC.out k hlt
      obtain ⟨j, hj⟩ : ∃ j, k = j + 1 := ⟨k - 1, by omega⟩
      obtain ⟨b', off', hb', _, c1⟩ := HC.out j (by omega)
      injection hb' with hb'
      injection hb' with hb1 hb2 _
      subst hb1 hb2
      obtain ⟨x, hx⟩ : ∃ x, zs.getD k 0 = x := ⟨_, rfl⟩
      obtain ⟨y, hy⟩ : ∃ y, zs.getD j 0 = y := ⟨_, rfl⟩
      rw [hx] at c0
      rw [hy] at c1
      have hkz : (k : Int) < (zs.length : Int) := by omega
      have hwj : IntKind.i64.wrap ((k : Int) - 1) = (j : Int) := by rw [IntKind.wrap_i64]; omega
      have hjz : (j : Int) < (zs.length : Int) := by omega
      have hj0 : (0 : Int) ≤ (j : Int) := by omega
      have hk00 : (0 : Int) ≤ (k : Int) := by omega
      by_cases hq : x ≤ y
      · have HRR : Hid (R = false) := Lib.hid (by
          rw [← HR.out]
          exact rises_no zs k hk1 hlt (by rw [show k - 1 = j by omega, hx, hy]; exact hq))
        have hq1 : decide (x ≤ y) = true := by simpa using hq
        clear hx hy hk HH HR hj
        go_wp2_with fail
        go_quiet (fail)
        go_wp2_with fail
        go_ret
        exact ⟨by rw [HRR.out]; rfl, _, World.drewN_drewN _ _ _⟩
      · have HHN : Hid (UpTo zs (k + 1)) := Lib.hid (HH.out.next (by rw [show k - 1 = j by omega, hx, hy]; omega))
        have hq1 : decide (x ≤ y) = false := by simpa using hq
        clear hx hy hk HH HR hj
        go_wp2_with fail
        go_quiet (fail)
        go_wp2_with fail
        go_roundw
        case rel => exact ⟨k + 1, _, by omega, Or.inl hlt, by go_num, HHN.out, rfl⟩
        case measure => simp [RowKit.intOf]; omega
    · have HRR : Hid (R = true) := Lib.hid (by
        rw [← HR.out]
        exact rises_yes zs (fun i h1 h2 => HH.out i h1 (by omega)))
      have hkz : ¬ (k : Int) < (zs.length : Int) := by omega
      clear HH HR
      go_wp2_with fail
      go_ret
      exact ⟨by rw [HRR.out]; rfl, n, rfl⟩

set_option maxHeartbeats 1000000 in
theorem rrises (ao : Option Addr) (cap : Nat) (zs : List Int) (w : World) (hl : zs.length ≤ 1000000) (hc : IntsAt ao zs w) :
    Calls Tryd.prog 37 #[.slice ao zs.length cap] w fun e w' => e = .returned (.bool (risesB zs)) ∧ ∃ n, w' = w.drewN n := by
  obtain ⟨R, hR⟩ : ∃ R, risesB zs = R := ⟨_, rfl⟩
  rw [hR]
  have HR := Lib.hid hR
  have HC := Lib.hid hc
  clear hR hc
  go_enter Tryd.func37, Tryd.ntmps37
  go_wp2_with fail
  go_loopw [3] (fun i wr => ∃ k n : Nat, 1 ≤ k ∧ (k ≤ zs.length ∨ k = 1) ∧ i = .int .i64 k ∧ UpTo zs k ∧ wr = w.drewN n) (fun i _ => zs.length - (RowKit.intOf i).toNat)
  case atStart => exact ⟨1, 0, by omega, Or.inr rfl, rfl, fun _ _ _ => by omega, rfl⟩
  case round =>
    obtain ⟨k, n, hk1, hk, rfl, hh, rfl⟩ := hrel
    have HH := Lib.hid hh
    clear hh
    by_cases hlt : k < zs.length
    · obtain ⟨b, off, rfl, hbw, c0⟩ := HC.out k hlt
      obtain ⟨j, hj⟩ : ∃ j, k = j + 1 := ⟨k - 1, by omega⟩
      obtain ⟨b', off', hb', _, c1⟩ := HC.out j (by omega)
      injection hb' with hb'
      injection hb' with hb1 hb2 _
      subst hb1 hb2
      obtain ⟨x, hx⟩ : ∃ x, zs.getD k 0 = x := ⟨_, rfl⟩
      obtain ⟨y, hy⟩ : ∃ y, zs.getD j 0 = y := ⟨_, rfl⟩
      rw [hx] at c0
      rw [hy] at c1
      have hkz : (k : Int) < (zs.length : Int) := by omega
      have hwj : IntKind.i64.wrap ((k : Int) - 1) = (j : Int) := by rw [IntKind.wrap_i64]; omega
      have hjz : (j : Int) < (zs.length : Int) := by omega
      have hj0 : (0 : Int) ≤ (j : Int) := by omega
      have hk00 : (0 : Int) ≤ (k : Int) := by omega
      by_cases hq : x ≤ y
      · have HRR : Hid (R = false) := Lib.hid (by
          rw [← HR.out]
          exact rises_no zs k hk1 hlt (by rw [show k - 1 = j by omega, hx, hy]; exact hq))
        have hq1 : decide (x ≤ y) = true := by simpa using hq
        clear hx hy hk HH HR hj
        go_wp2_with fail
        go_quiet (fail)
        go_wp2_with fail
        go_ret
        exact ⟨by rw [HRR.out]; rfl, _, World.drewN_drewN _ _ _⟩
      · have HHN : Hid (UpTo zs (k + 1)) := Lib.hid (HH.out.next (by rw [show k - 1 = j by omega, hx, hy]; omega))
        have hq1 : decide (x ≤ y) = false := by simpa using hq
        clear hx hy hk HH HR hj
        go_wp2_with fail
        go_quiet (fail)
        go_wp2_with fail
        go_roundw
        case rel => exact ⟨k + 1, _, by omega, Or.inl hlt, by go_num, HHN.out, rfl⟩
        case measure => simp [RowKit.intOf]; omega
    · have HRR : Hid (R = true) := Lib.hid (by
        rw [← HR.out]
        exact rises_yes zs (fun i h1 h2 => HH.out i h1 (by omega)))
      have hkz : ¬ (k : Int) < (zs.length : Int) := by omega
      clear HH HR
      go_wp2_with fail
      go_ret
      exact ⟨by rw [HRR.out]; rfl, n, rfl⟩

set_option maxHeartbeats 1000000 in
theorem mletter (c : UInt8) (w : World) : Calls Tryd.prog 50 #[.int .u8 c.toNat] w fun e w' => e = .returned (.bool (letB c)) ∧ w = w' := by
  obtain ⟨d, hd⟩ : ∃ d : Nat, c.toNat = d := ⟨_, rfl⟩
  rw [hd]
  by_cases h1 : d < 97
  · have HR : Hid (letB c = false) := Lib.hid (by unfold letB; rw [hd]; simp; omega)
    have h1z : ¬ (97 : Int) ≤ (d : Int) := by omega
    clear hd
    go_enter Tryd.func50, Tryd.ntmps50
    go_wp2_with fail
    go_ret
    exact ⟨by rw [HR.out]; rfl, rfl⟩
  · by_cases h2 : 122 < d
    · have HR : Hid (letB c = false) := Lib.hid (by unfold letB; rw [hd]; simp; omega)
      have h1z : (97 : Int) ≤ (d : Int) := by omega
      have h2z : ¬ (d : Int) ≤ 122 := by omega
      clear hd
      go_enter Tryd.func50, Tryd.ntmps50
      go_wp2_with fail
      go_ret
      exact ⟨by rw [HR.out]; rfl, rfl⟩
    · have HR : Hid (letB c = true) := Lib.hid (by unfold letB; rw [hd]; simp; omega)
      have h1z : (97 : Int) ≤ (d : Int) := by omega
      have h2z : (d : Int) ≤ 122 := by omega
      clear hd
      go_enter Tryd.func50, Tryd.ntmps50
      go_wp2_with fail
      go_ret
      exact ⟨by rw [HR.out]; rfl, rfl⟩

set_option maxHeartbeats 1000000 in
theorem rints (ao bo : Option Addr) (cap cbp : Nat) (xs ys : List Int) (w : World) (hl : xs.length ≤ 1000000) (_ : ys.length ≤ 1000000) (hc : IntsAt ao xs w) (hd : IntsAt bo ys w) :
    Calls Tryd.prog 39 #[.slice ao xs.length cap, .slice bo ys.length cbp] w fun e w' => e = .returned (.bool (decide (xs = ys))) ∧ ∃ n, w' = w.drewN n := by
  by_cases he : xs.length = ys.length
  · obtain ⟨R, hR⟩ : ∃ R, decide (xs = ys) = R := ⟨_, rfl⟩
    rw [hR]
    have HR := Lib.hid hR
    have HC := Lib.hid hc
    have HD := Lib.hid hd
    have hez : ((xs.length : Int) == (ys.length : Int)) = true := by rw [beq_iff_eq]; omega
    have hez2 : (xs.length : Int) = (ys.length : Int) := by omega
    have HE := Lib.hid he
    clear hR hc hd
    go_enter Tryd.func39, Tryd.ntmps39
    go_wp2_with fail
    go_loopw [5] (fun i wr => ∃ k n : Nat, k ≤ xs.length ∧ i = .int .i64 k ∧ decide (xs.drop k = ys.drop k) = R ∧ wr = w.drewN n) (fun i _ => xs.length - (RowKit.intOf i).toNat)
    case atStart => exact ⟨0, 0, by omega, rfl, by rw [List.drop_zero, List.drop_zero]; exact HR.out, rfl⟩
    case round =>
      obtain ⟨k, n, hk, rfl, hh, rfl⟩ := hrel
      by_cases hlt : k < xs.length
      · obtain ⟨b, off, rfl, hbw, c0⟩ := HC.out k hlt
        obtain ⟨b2, off2, rfl, hbw2, c1⟩ := HD.out k (by omega)
        obtain ⟨x, hx⟩ : ∃ x, xs.getD k 0 = x := ⟨_, rfl⟩
        obtain ⟨y, hy⟩ : ∃ y, ys.getD k 0 = y := ⟨_, rfl⟩
        rw [drop_i xs k hlt, drop_i ys k (by omega), hx, hy] at hh
        rw [hx] at c0
        rw [hy] at c1
        have hkz : (k : Int) < (xs.length : Int) := by omega
        have hkz2 : (k : Int) < (ys.length : Int) := by omega
        have hk00 : (0 : Int) ≤ (k : Int) := by omega
        by_cases hq : x = y
        · subst hq
          have HHN : Hid (decide (xs.drop (k + 1) = ys.drop (k + 1)) = R) := Lib.hid (by rw [← hh]; simp)
          have hq1 : (x == x) = true := by simp
          clear hx hy hh HR he HC HD
          go_wp2_with fail
          go_quiet (fail)
          go_wp2_with fail
          go_roundw
          case rel => exact ⟨k + 1, _, hlt, by go_num, HHN.out, rfl⟩
          case measure => simp [RowKit.intOf]; omega
        · have HRR : Hid (R = false) := Lib.hid (by rw [← hh]; simp [hq])
          have hq1 : (x == y) = false := by rw [beq_eq_false_iff_ne]; exact hq
          clear hx hy hh HR he HC HD
          go_wp2_with fail
          go_quiet (fail)
          go_wp2_with fail
          go_ret
          exact ⟨by rw [HRR.out]; rfl, _, World.drewN_drewN _ _ _⟩
      · have hke : k = xs.length := by omega
        subst hke
        have HRR : Hid (R = true) := Lib.hid (by
          rw [← hh, List.drop_length, HE.out, List.drop_length]; rfl)
        clear hh HR he
        go_wp2_with fail
        go_ret
        exact ⟨by rw [HRR.out]; rfl, n, rfl⟩
  · have HR : Hid (decide (xs = ys) = false) := Lib.hid (by
      rw [decide_eq_false_iff_not]; exact fun e => he (by rw [e]))
    have hez : ((xs.length : Int) == (ys.length : Int)) = false := by rw [beq_eq_false_iff_ne]; omega
    have hez2 : ¬ (xs.length : Int) = (ys.length : Int) := by omega
    clear hc hd he
    go_enter Tryd.func39, Tryd.ntmps39
    go_wp2_with fail
    go_ret
    exact ⟨by rw [HR.out]; rfl, 0, rfl⟩
end Go.Proofs.YtgljaopnehdgdaaDoor
