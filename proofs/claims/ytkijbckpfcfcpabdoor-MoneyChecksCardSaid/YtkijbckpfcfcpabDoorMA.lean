/-
  Contracts of package money's Valid, Sum and Add, and of the document's own.
-/
import Derived.Test.YtkijbckpfcfcpabDoorProg
import Derived.Test.YtkijbckpfcfcpabDoorMMath
import Derived.WalkKit
import Derived.WalkMore
import Derived.Outline
import Derived.Below
import Derived.Lib.Hide
import Derived.Laws.Externs
namespace Go.Proofs.YtkijbckpfcfcpabDoor
open Go Go.RowKit WM

theorem bal {w w' : World} (h : Below w.heap.size w w') (o : Obj) : Below w.heap.size w (w'.alloc o) := h.alloc h.size _
theorem btr {w w' w'' : World} (h : Below w.heap.size w w') (k : Below w'.heap.size w' w'') : Below w.heap.size w w'' := h.trans (k.mono h.size)
theorem bref (w : World) : Below w.heap.size w w := Below.refl _ _
theorem keepc {W w1 : World} (hb : Below W.heap.size W w1) {b o : Nat} {v : Value} (hc : W.cell? ⟨b, o, none⟩ = some v) : w1.cell? ⟨b, o, none⟩ = some v :=
  (hb.cell (p := ⟨b, o, none⟩) (World.block_lt_of_cell? W _ hc)).trans hc
def I64 (a : Int) : Prop := -9223372036854775808 ≤ a ∧ a ≤ 9223372036854775807

theorem mvalid (m : Int) (w : World) : Calls Tryd.prog 12 #[.int .i64 m] w fun e w' => e = .returned (.bool (amtB m)) ∧ w = w' := by
  by_cases h1 : -1000000000000 ≤ m
  · by_cases h2 : m ≤ 1000000000000
    · have H : Hid (amtB m = true) := Lib.hid (by simp [amtB, h1, h2])
      go_enter Tryd.func12, Tryd.ntmps12
      go_wp2_with fail
      go_ret
      exact ⟨by rw [H.out]; rfl, rfl⟩
    · have H : Hid (amtB m = false) := Lib.hid (by simp [amtB]; omega)
      have hd : decide (m ≤ 1000000000000) = false := by simpa using h2
      go_enter Tryd.func12, Tryd.ntmps12
      go_wp2_with fail
      go_ret
      exact ⟨by rw [H.out]; rfl, rfl⟩
  · have H : Hid (amtB m = false) := Lib.hid (by simp [amtB]; omega)
    have hd : decide (-1000000000000 ≤ m) = false := by simpa using h1
    go_enter Tryd.func12, Tryd.ntmps12
    go_wp2_with fail
    go_ret
    exact ⟨by rw [H.out]; rfl, rfl⟩
theorem rvalid (m : Int) (w : World) : Calls Tryd.prog 13 #[.int .i64 m] w fun e w' => e = .returned (.bool (amtB m)) ∧ w = w' := by
  by_cases h1 : -1000000000000 ≤ m
  · by_cases h2 : m ≤ 1000000000000
    · have H : Hid (amtB m = true) := Lib.hid (by simp [amtB, h1, h2])
      go_enter Tryd.func13, Tryd.ntmps13
      go_wp2_with fail
      go_ret
      exact ⟨by rw [H.out]; rfl, rfl⟩
    · have H : Hid (amtB m = false) := Lib.hid (by simp [amtB]; omega)
      have hd : decide (m ≤ 1000000000000) = false := by simpa using h2
      go_enter Tryd.func13, Tryd.ntmps13
      go_wp2_with fail
      go_ret
      exact ⟨by rw [H.out]; rfl, rfl⟩
  · have H : Hid (amtB m = false) := Lib.hid (by simp [amtB]; omega)
    have hd : decide (-1000000000000 ≤ m) = false := by simpa using h1
    go_enter Tryd.func13, Tryd.ntmps13
    go_wp2_with fail
    go_ret
    exact ⟨by rw [H.out]; rfl, rfl⟩
theorem mdigits (m : Int) (w : World) : Calls Tryd.prog 27 #[.int .i64 m] w fun e w' => e = .returned (.bool (plB m)) ∧ w = w' := by
  by_cases h1 : 0 ≤ m
  · by_cases h2 : m ≤ 4
    · have H : Hid (plB m = true) := Lib.hid (by simp [plB, h1, h2])
      go_enter Tryd.func27, Tryd.ntmps27
      go_wp2_with fail
      go_ret
      exact ⟨by rw [H.out]; rfl, rfl⟩
    · have H : Hid (plB m = false) := Lib.hid (by simp [plB]; omega)
      have hd : decide (m ≤ 4) = false := by simpa using h2
      go_enter Tryd.func27, Tryd.ntmps27
      go_wp2_with fail
      go_ret
      exact ⟨by rw [H.out]; rfl, rfl⟩
  · have H : Hid (plB m = false) := Lib.hid (by simp [plB]; omega)
    have hd : decide (0 ≤ m) = false := by simpa using h1
    go_enter Tryd.func27, Tryd.ntmps27
    go_wp2_with fail
    go_ret
    exact ⟨by rw [H.out]; rfl, rfl⟩

def sumI (l : List Int) : Int := l.foldl (· + ·) 0
theorem sumI_snoc (l : List Int) (z : Int) : sumI (l ++ [z]) = sumI l + z := by simp [sumI]
theorem take_snoc_i (l : List Int) (k : Nat) (h : k < l.length) : l.take (k + 1) = l.take k ++ [l.getD k 0] := by
  rw [List.take_succ_eq_append_getElem h]
  simp [List.getD, h]
theorem sumI_bd (l : List Int) (h : l.all amtB = true) : -1000000000000 * (l.length : Int) ≤ sumI l ∧ sumI l ≤ 1000000000000 * l.length := by
  have key : ∀ (n : Nat) (l : List Int), l.length = n → l.all amtB = true → -1000000000000 * (n : Int) ≤ sumI l ∧ sumI l ≤ 1000000000000 * n := by
    intro n
    induction n with
    | zero => intro l hl _; have : l = [] := List.eq_nil_of_length_eq_zero hl; subst this; simp [sumI]
    | succ n ih =>
      intro l hl ha
      rcases List.eq_nil_or_concat l with rfl | ⟨m, c, rfl⟩
      · simp at hl
      · rw [List.concat_eq_append] at *
        rw [List.all_append, Bool.and_eq_true] at ha
        have h1 := ih m (by simp at hl; omega) ha.1
        have h2 : -1000000000000 ≤ c ∧ c ≤ 1000000000000 := by simpa [amtB] using ha.2
        rw [sumI_snoc]; omega
  exact key l.length l rfl h
theorem all_stop (l : List Int) (k : Nat) (h : k < l.length) (hz : amtB (l.getD k 0) = false) : l.all amtB = false := by
  cases h' : l.all amtB
  · rfl
  · rw [List.all_eq_true] at h'
    have := h' (l.getD k 0) (by simp [List.getD, h])
    rw [hz] at this; cases this
def sumV (l : List Int) : Int := if 4096 < l.length then 0 else if l.all amtB then (if amtB (sumI l) then sumI l else 0) else 0
def sumE (l : List Int) : Int := if 4096 < l.length then 5 else if l.all amtB then (if amtB (sumI l) then 0 else 6) else 1

set_option maxRecDepth 100000 in
set_option maxHeartbeats 2000000 in
theorem msum (ao : Option Addr) (cap : Nat) (zs : List Int) (w : World) (hlen : zs.length ≤ 1000000) (hc : ∀ i, i < zs.length → ∃ b off, ao = some ⟨b, off, none⟩ ∧ w.cell? ⟨b, off + i, none⟩ = some (.int .i64 (zs.getD i 0))) :
    Calls Tryd.prog 15 #[.slice ao zs.length cap] w fun e w' => e = .returned (.tuple #[.int .i64 (sumV zs), .int .i64 (sumE zs)]) ∧ w = w' := by
  by_cases hbig : 4096 < zs.length
  · have hb' : (4096 : Int) < (zs.length : Int) := by omega
    have H : Hid (sumV zs = 0 ∧ sumE zs = 5) := Lib.hid (by unfold sumV sumE; rw [if_pos hbig, if_pos hbig]; exact ⟨rfl, rfl⟩)
    clear hbig
    go_enter Tryd.func15, Tryd.ntmps15
    go_wp2_with fail
    go_ret2
    exact ⟨by rw [H.out.1, H.out.2]; rfl, rfl⟩
  · have hb' : (zs.length : Int) ≤ 4096 := by omega
    have HB := Lib.hid hbig
    have HC := Lib.hid hc
    clear hbig hc
    go_enter Tryd.func15, Tryd.ntmps15
    go_wp2_with fail
    go_loop [4, 12] (fun t i => ∃ k : Nat, k ≤ zs.length ∧ i = .int .i64 k ∧ (zs.take k).all amtB = true ∧ t = .int .i64 (sumI (zs.take k))) (fun _ i => zs.length - (RowKit.intOf i).toNat)
    case atStart => exact ⟨0, by omega, rfl, rfl, rfl⟩
    case round =>
      obtain ⟨k, hk, rfl, hall, rfl⟩ := hrel
      obtain ⟨s0, s1⟩ := sumI_bd _ hall
      have hl : (zs.take k).length ≤ 4096 := by rw [List.length_take]; omega
      obtain ⟨S, hS⟩ : ∃ S, sumI (zs.take k) = S := ⟨_, rfl⟩
      rw [hS] at s0 s1
      have s2 : -4096000000000000 ≤ S ∧ S ≤ 4096000000000000 := by omega
      obtain ⟨s3, s4⟩ := s2
      simp only [hS]
      have HS := Lib.hid hS; have HA := Lib.hid hall
      clear hS hall s0 s1 hl
      by_cases hlt : k < zs.length
      · obtain ⟨b, off, rfl, hcell⟩ := HC.out k hlt
        have hts := take_snoc_i zs k hlt
        obtain ⟨z, hz⟩ : ∃ z, zs.getD k 0 = z := ⟨_, rfl⟩
        have hstop := all_stop zs k hlt
        rw [hz] at hcell hts hstop
        have HT := Lib.hid hts; have HST := Lib.hid hstop
        clear hz hts hstop
        cases hv : amtB z
        · have HN : Hid (sumV zs = 0 ∧ sumE zs = 1) := Lib.hid (by unfold sumV sumE; rw [if_neg HB.out, if_neg HB.out, HST.out hv]; exact ⟨rfl, rfl⟩)
          have V := fun W => mvalid z W
          simp only [hv] at V
          have V := Lib.hid V
          go_wp2_with fail
          refine (V.out _).mono ?_
          rintro e w1 ⟨rfl, rfl⟩
          go_wp2_with fail
          go_ret2
          exact ⟨by rw [HN.out.1, HN.out.2]; rfl, rfl⟩
        · have hzb : -1000000000000 ≤ z ∧ z ≤ 1000000000000 := by simpa [amtB] using hv
          obtain ⟨z0, z1⟩ := hzb
          have V := fun W => mvalid z W
          simp only [hv] at V
          have V := Lib.hid V
          have HV := Lib.hid hv
          clear hv
          go_wp2_with fail
          refine (V.out _).mono ?_
          rintro e w1 ⟨rfl, rfl⟩
          go_wp2_with fail
          go_round
          case rel => exact ⟨k + 1, by omega, by go_num, by rw [HT.out, List.all_append, HA.out]; simp [HV.out], by rw [HT.out, sumI_snoc, HS.out]⟩
          case measure => simp [RowKit.intOf]; omega
      · have he : k = zs.length := by omega
        subst he
        have h1 := HA.out; have h2 := HS.out
        rw [List.take_length] at h1 h2
        cases hv : amtB S
        · have H : Hid (sumV zs = 0 ∧ sumE zs = 6) := Lib.hid (by
            unfold sumV sumE; rw [if_neg HB.out, if_neg HB.out, h1, if_pos rfl, if_pos rfl, h2, hv]; exact ⟨rfl, rfl⟩)
          have V := fun W => mvalid S W
          simp only [hv] at V
          have V := Lib.hid V
          clear h1 h2 hv
          go_wp2_with fail
          refine (V.out _).mono ?_
          rintro e w1 ⟨rfl, rfl⟩
          go_wp2_with fail
          go_ret2
          exact ⟨by rw [H.out.1, H.out.2]; rfl, rfl⟩
        · have H : Hid (sumV zs = S ∧ sumE zs = 0) := Lib.hid (by
            unfold sumV sumE; rw [if_neg HB.out, if_neg HB.out, h1, if_pos rfl, if_pos rfl, h2, hv]; exact ⟨rfl, rfl⟩)
          have V := fun W => mvalid S W
          simp only [hv] at V
          have V := Lib.hid V
          clear h1 h2 hv
          go_wp2_with fail
          refine (V.out _).mono ?_
          rintro e w1 ⟨rfl, rfl⟩
          go_wp2_with fail
          go_ret2
          exact ⟨by rw [H.out.1, H.out.2]; rfl, rfl⟩

set_option maxRecDepth 100000 in
set_option maxHeartbeats 2000000 in
theorem rsum (ao : Option Addr) (cap : Nat) (zs : List Int) (w : World) (hlen : zs.length ≤ 1000000) (hc : ∀ i, i < zs.length → ∃ b off, ao = some ⟨b, off, none⟩ ∧ w.cell? ⟨b, off + i, none⟩ = some (.int .i64 (zs.getD i 0))) :
    Calls Tryd.prog 16 #[.slice ao zs.length cap] w fun e w' => e = .returned (.tuple #[.int .i64 (sumV zs), .int .i64 (sumE zs)]) ∧ w = w' := by
  by_cases hbig : 4096 < zs.length
  · have hb' : (4096 : Int) < (zs.length : Int) := by omega
    have H : Hid (sumV zs = 0 ∧ sumE zs = 5) := Lib.hid (by unfold sumV sumE; rw [if_pos hbig, if_pos hbig]; exact ⟨rfl, rfl⟩)
    clear hbig
    go_enter Tryd.func16, Tryd.ntmps16
    go_wp2_with fail
    go_ret2
    exact ⟨by rw [H.out.1, H.out.2]; rfl, rfl⟩
  · have hb' : (zs.length : Int) ≤ 4096 := by omega
    have HB := Lib.hid hbig
    have HC := Lib.hid hc
    clear hbig hc
    go_enter Tryd.func16, Tryd.ntmps16
    go_wp2_with fail
    go_loop [4, 5] (fun t i => ∃ k : Nat, k ≤ zs.length ∧ i = .int .i64 k ∧ (zs.take k).all amtB = true ∧ t = .int .i64 (sumI (zs.take k))) (fun _ i => zs.length - (RowKit.intOf i).toNat)
    case atStart => exact ⟨0, by omega, rfl, rfl, rfl⟩
    case round =>
      obtain ⟨k, hk, rfl, hall, rfl⟩ := hrel
      obtain ⟨s0, s1⟩ := sumI_bd _ hall
      have hl : (zs.take k).length ≤ 4096 := by rw [List.length_take]; omega
      obtain ⟨S, hS⟩ : ∃ S, sumI (zs.take k) = S := ⟨_, rfl⟩
      rw [hS] at s0 s1
      have s2 : -4096000000000000 ≤ S ∧ S ≤ 4096000000000000 := by omega
      obtain ⟨s3, s4⟩ := s2
      simp only [hS]
      have HS := Lib.hid hS; have HA := Lib.hid hall
      clear hS hall s0 s1 hl
      by_cases hlt : k < zs.length
      · obtain ⟨b, off, rfl, hcell⟩ := HC.out k hlt
        have hts := take_snoc_i zs k hlt
        obtain ⟨z, hz⟩ : ∃ z, zs.getD k 0 = z := ⟨_, rfl⟩
        have hstop := all_stop zs k hlt
        rw [hz] at hcell hts hstop
        have HT := Lib.hid hts; have HST := Lib.hid hstop
        clear hz hts hstop
        cases hv : amtB z
        · have HN : Hid (sumV zs = 0 ∧ sumE zs = 1) := Lib.hid (by unfold sumV sumE; rw [if_neg HB.out, if_neg HB.out, HST.out hv]; exact ⟨rfl, rfl⟩)
          have V := fun W => rvalid z W
          simp only [hv] at V
          have V := Lib.hid V
          go_wp2_with fail
          refine (V.out _).mono ?_
          rintro e w1 ⟨rfl, rfl⟩
          go_wp2_with fail
          go_ret2
          exact ⟨by rw [HN.out.1, HN.out.2]; rfl, rfl⟩
        · have hzb : -1000000000000 ≤ z ∧ z ≤ 1000000000000 := by simpa [amtB] using hv
          obtain ⟨z0, z1⟩ := hzb
          have V := fun W => rvalid z W
          simp only [hv] at V
          have V := Lib.hid V
          have HV := Lib.hid hv
          clear hv
          go_wp2_with fail
          refine (V.out _).mono ?_
          rintro e w1 ⟨rfl, rfl⟩
          go_wp2_with fail
          go_round
          case rel => exact ⟨k + 1, by omega, by go_num, by rw [HT.out, List.all_append, HA.out]; simp [HV.out], by rw [HT.out, sumI_snoc, HS.out]⟩
          case measure => simp [RowKit.intOf]; omega
      · have he : k = zs.length := by omega
        subst he
        have h1 := HA.out; have h2 := HS.out
        rw [List.take_length] at h1 h2
        cases hv : amtB S
        · have H : Hid (sumV zs = 0 ∧ sumE zs = 6) := Lib.hid (by
            unfold sumV sumE; rw [if_neg HB.out, if_neg HB.out, h1, if_pos rfl, if_pos rfl, h2, hv]; exact ⟨rfl, rfl⟩)
          have V := fun W => rvalid S W
          simp only [hv] at V
          have V := Lib.hid V
          clear h1 h2 hv
          go_wp2_with fail
          refine (V.out _).mono ?_
          rintro e w1 ⟨rfl, rfl⟩
          go_wp2_with fail
          go_ret2
          exact ⟨by rw [H.out.1, H.out.2]; rfl, rfl⟩
        · have H : Hid (sumV zs = S ∧ sumE zs = 0) := Lib.hid (by
            unfold sumV sumE; rw [if_neg HB.out, if_neg HB.out, h1, if_pos rfl, if_pos rfl, h2, hv]; exact ⟨rfl, rfl⟩)
          have V := fun W => rvalid S W
          simp only [hv] at V
          have V := Lib.hid V
          clear h1 h2 hv
          go_wp2_with fail
          refine (V.out _).mono ?_
          rintro e w1 ⟨rfl, rfl⟩
          go_wp2_with fail
          go_ret2
          exact ⟨by rw [H.out.1, H.out.2]; rfl, rfl⟩

/-- Add: the sum of two. -/
theorem madd (a b : Int) (w : World) : Calls Tryd.prog 10 #[.int .i64 a, .int .i64 b] w fun e w' => e = .returned (.tuple #[.int .i64 (sumV [a, b]), .int .i64 (sumE [a, b])]) ∧ Below w.heap.size w w' := by
  have S := fun W hc => msum (some ⟨w.heap.size, 0, none⟩) 2 [a, b] W (by simp) hc
  obtain ⟨Q, hQ⟩ : ∃ x, sumV [a, b] = x := ⟨_, rfl⟩
  obtain ⟨E, hE⟩ : ∃ x, sumE [a, b] = x := ⟨_, rfl⟩
  simp only [hQ, hE] at S ⊢
  have S := Lib.hid S
  clear hQ hE
  go_enter Tryd.func10, Tryd.ntmps10
  go_wp2_with fail
  refine (S.out _ (fun i hi => ⟨_, _, rfl, ?_⟩)).mono ?_
  · have hi2 : i < 2 := hi
    match i, hi2 with
    | 0, _ => simp [go_sem]
    | 1, _ => simp [go_sem]
  rintro e w1 ⟨rfl, rfl⟩
  go_wp2_with fail
  go_ret2
  exact ⟨rfl, bal (bref _) _⟩
theorem radd (a b : Int) (w : World) : Calls Tryd.prog 11 #[.int .i64 a, .int .i64 b] w fun e w' => e = .returned (.tuple #[.int .i64 (sumV [a, b]), .int .i64 (sumE [a, b])]) ∧ w = w' := by
  have Va := fun W => rvalid a W
  have Vb := fun W => rvalid b W
  cases ha : amtB a
  · have H : Hid (sumV [a, b] = 0 ∧ sumE [a, b] = 1) := Lib.hid (by simp [sumV, sumE, ha])
    simp only [ha] at Va
    have Va := Lib.hid Va
    clear Vb ha
    go_enter Tryd.func11, Tryd.ntmps11
    go_wp2_with fail
    refine (Va.out _).mono ?_
    rintro e w1 ⟨rfl, rfl⟩
    go_wp2_with fail
    go_ret2
    exact ⟨by rw [H.out.1, H.out.2]; rfl, rfl⟩
  · cases hb : amtB b
    · have H : Hid (sumV [a, b] = 0 ∧ sumE [a, b] = 1) := Lib.hid (by simp [sumV, sumE, hb])
      simp only [ha] at Va; simp only [hb] at Vb
      have Va := Lib.hid Va; have Vb := Lib.hid Vb
      clear ha hb
      go_enter Tryd.func11, Tryd.ntmps11
      go_wp2_with fail
      refine (Va.out _).mono ?_
      rintro e w1 ⟨rfl, rfl⟩
      go_wp2_with fail
      refine (Vb.out _).mono ?_
      rintro e w1 ⟨rfl, rfl⟩
      go_wp2_with fail
      go_ret2
      exact ⟨by rw [H.out.1, H.out.2]; rfl, rfl⟩
    · have a0 : -1000000000000 ≤ a ∧ a ≤ 1000000000000 := by simpa [amtB] using ha
      have b0 : -1000000000000 ≤ b ∧ b ≤ 1000000000000 := by simpa [amtB] using hb
      obtain ⟨a0, a1⟩ := a0
      obtain ⟨b0, b1⟩ := b0
      have hw : wrap64 (a + b) = a + b := by unfold wrap64; omega
      have Vs := fun W => rvalid (a + b) W
      have e2 : sumI [a, b] = a + b := by simp [sumI]
      cases hs : amtB (a + b)
      · have H : Hid (sumV [a, b] = 0 ∧ sumE [a, b] = 6) := Lib.hid (by simp [sumV, sumE, ha, hb, e2, hs])
        simp only [ha] at Va; simp only [hb] at Vb; simp only [hs] at Vs
        have Va := Lib.hid Va; have Vb := Lib.hid Vb; have Vs := Lib.hid Vs
        clear ha hb hs e2
        go_enter Tryd.func11, Tryd.ntmps11
        go_wp2_with fail
        refine (Va.out _).mono ?_
        rintro e w1 ⟨rfl, rfl⟩
        go_wp2_with fail
        refine (Vb.out _).mono ?_
        rintro e w1 ⟨rfl, rfl⟩
        go_wp2_with fail
        refine (Vs.out _).mono ?_
        rintro e w1 ⟨rfl, rfl⟩
        go_wp2_with fail
        go_ret2
        exact ⟨by rw [H.out.1, H.out.2]; rfl, rfl⟩
      · have H : Hid (sumV [a, b] = a + b ∧ sumE [a, b] = 0) := Lib.hid (by simp [sumV, sumE, ha, hb, e2, hs])
        simp only [ha] at Va; simp only [hb] at Vb; simp only [hs] at Vs
        have Va := Lib.hid Va; have Vb := Lib.hid Vb; have Vs := Lib.hid Vs
        clear ha hb hs e2
        go_enter Tryd.func11, Tryd.ntmps11
        go_wp2_with fail
        refine (Va.out _).mono ?_
        rintro e w1 ⟨rfl, rfl⟩
        go_wp2_with fail
        refine (Vb.out _).mono ?_
        rintro e w1 ⟨rfl, rfl⟩
        go_wp2_with fail
        refine (Vs.out _).mono ?_
        rintro e w1 ⟨rfl, rfl⟩
        go_wp2_with fail
        go_ret2
        exact ⟨by rw [H.out.1, H.out.2]; rfl, rfl⟩
end Go.Proofs.YtkijbckpfcfcpabDoor
