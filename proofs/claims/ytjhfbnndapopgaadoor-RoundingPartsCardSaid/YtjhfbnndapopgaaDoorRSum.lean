/-
  The contract of package rounding's sum, over a slice that is there.
-/
import Derived.Test.YtjhfbnndapopgaaDoorRA
import Derived.WalkMore
namespace Go.Proofs.YtjhfbnndapopgaaDoor
open Go Go.RowKit WM

/-- Is it a weight? -/
def weightB (z : Int) : Bool := decide (0 ≤ z ∧ z ≤ 1000000000000)
def sumI (l : List Int) : Int := l.foldl (· + ·) 0
def sumW (l : List Int) : Int := if 64 < l.length then 0 else if l.all weightB then sumI l else 0
theorem sumI_snoc (l : List Int) (z : Int) : sumI (l ++ [z]) = sumI l + z := by simp [sumI]
theorem take_snoc_i (l : List Int) (k : Nat) (h : k < l.length) : l.take (k + 1) = l.take k ++ [l.getD k 0] := by
  rw [List.take_succ_eq_append_getElem h]
  simp [List.getD, h]
theorem sumI_bd (l : List Int) (h : l.all weightB = true) : 0 ≤ sumI l ∧ sumI l ≤ 1000000000000 * l.length := by
  have key : ∀ (n : Nat) (l : List Int), l.length = n → l.all weightB = true → 0 ≤ sumI l ∧ sumI l ≤ 1000000000000 * n := by
    intro n
    induction n with
    | zero => intro l hl _; have : l = [] := List.eq_nil_of_length_eq_zero hl; subst this; simp [sumI]
    | succ n ih =>
      intro l hl ha
      rcases List.eq_nil_or_concat l with rfl | ⟨m, c, rfl⟩
      · simp at hl
      · rw [List.concat_eq_append] at *
        rw [List.all_append, Bool.and_eq_true] at ha
        have h1 := ih m (by simp at hl; omega) ha.1
        have h2 : 0 ≤ c ∧ c ≤ 1000000000000 := by simpa [weightB] using ha.2
        rw [sumI_snoc]; omega
  exact key l.length l rfl h
theorem all_stop (l : List Int) (k : Nat) (h : k < l.length) (hz : weightB (l.getD k 0) = false) : l.all weightB = false := by
  cases h' : l.all weightB
  · rfl
  · rw [List.all_eq_true] at h'
    have := h' (l.getD k 0) (by simp [List.getD, h])
    rw [hz] at this; cases this

set_option maxRecDepth 100000 in
set_option maxHeartbeats 2000000 in
theorem sum_any (b off cap : Nat) (zs : List Int) (w : World) (hlen : zs.length ≤ 1000000) (hc : ∀ i, i < zs.length → w.cell? ⟨b, off + i, none⟩ = some (.int .i64 (zs.getD i 0))) :
    Calls Tryd.prog 58 #[.slice (some ⟨b, off, none⟩) zs.length cap] w fun e w' => e = .returned (.int .i64 (sumW zs)) ∧ w = w' := by
  by_cases hbig : 64 < zs.length
  · have hb' : (64 : Int) < (zs.length : Int) := by omega
    have H : Hid (sumW zs = 0) := Lib.hid (by unfold sumW; rw [if_pos hbig])
    clear hbig
    go_enter Tryd.func58, Tryd.ntmps58
    go_wp2
    go_ret
    exact ⟨by rw [H.out]; rfl, rfl⟩
  · have hb' : (zs.length : Int) ≤ 64 := by omega
    have HB := Lib.hid hbig
    have HC := Lib.hid hc
    clear hbig hc
    go_enter Tryd.func58, Tryd.ntmps58
    go_wp2
    go_loop [3, 11] (fun t i => ∃ k : Nat, k ≤ zs.length ∧ i = .int .i64 k ∧ (zs.take k).all weightB = true ∧ t = .int .i64 (sumI (zs.take k))) (fun _ i => zs.length - (RowKit.intOf i).toNat)
    case atStart => exact ⟨0, by omega, rfl, rfl, rfl⟩
    case round =>
      obtain ⟨k, hk, rfl, hall, rfl⟩ := hrel
      obtain ⟨s0, s1⟩ := sumI_bd _ hall
      have hl : (zs.take k).length ≤ 64 := by rw [List.length_take]; omega
      obtain ⟨S, hS⟩ : ∃ S, sumI (zs.take k) = S := ⟨_, rfl⟩
      rw [hS] at s0 s1
      have s2 : S ≤ 64000000000000 := by omega
      simp only [hS]
      have HS := Lib.hid hS; have HA := Lib.hid hall
      clear hS hall s1 hl
      by_cases hlt : k < zs.length
      · have hcell := HC.out k hlt
        have hts := take_snoc_i zs k hlt
        obtain ⟨z, hz⟩ : ∃ z, zs.getD k 0 = z := ⟨_, rfl⟩
        have hstop := all_stop zs k hlt
        rw [hz] at hcell hts hstop
        have HT := Lib.hid hts; have HST := Lib.hid hstop
        clear hz hts hstop
        by_cases c1 : z < 0
        · have HN : Hid (sumW zs = 0) := Lib.hid (by unfold sumW; rw [if_neg HB.out, HST.out (by simp [weightB]; omega)]; rfl)
          go_wp2
          go_ret
          exact ⟨by rw [HN.out]; rfl, rfl⟩
        · by_cases c2 : 1000000000000 < z
          · have HN : Hid (sumW zs = 0) := Lib.hid (by unfold sumW; rw [if_neg HB.out, HST.out (by simp [weightB]; omega)]; rfl)
            go_wp2
            go_ret
            exact ⟨by rw [HN.out]; rfl, rfl⟩
          · have HW : Hid (weightB z = true) := Lib.hid (by simp [weightB]; omega)
            go_wp2
            go_round
            case rel => exact ⟨k + 1, by omega, by go_num, by rw [HT.out, List.all_append, HA.out]; simp [HW.out], by rw [HT.out, sumI_snoc, HS.out]⟩
            case measure => simp [RowKit.intOf]; omega
      · have he : k = zs.length := by omega
        subst he
        have H : Hid (sumW zs = S) := Lib.hid (by
          have h1 := HA.out; have h2 := HS.out
          rw [List.take_length] at h1 h2
          unfold sumW; rw [if_neg HB.out, h1, if_pos rfl, h2])
        go_wp2
        go_ret
        exact ⟨by rw [H.out]; rfl, rfl⟩
end Go.Proofs.YtjhfbnndapopgaaDoor
