/-
  Plain facts for the laws of day counts: near days, a sum day by day from the front, a year.
-/
import Derived.Test.YtnhealjngkhinaaDoorFL
namespace Go.Proofs.YtnhealjngkhinaaDoor
open Go Go.RowKit Go.Lib WM

def nearB (f t : Int) : Bool := decide (vdB f = false ∨ vdB t = false ∨ t - f ≤ 2000)
theorem near_no {f t : Int} (hf : vdB f = true) (ht : vdB t = true) (h : ¬ t - f ≤ 2000) : nearB f t = false := by
  unfold nearB; rw [decide_eq_false_iff_not]; rintro (k | k | k)
  · rw [hf] at k; cases k
  · rw [ht] at k; cases k
  · exact h k
theorem near_yes {f t : Int} (h : vdB f = false ∨ vdB t = false ∨ t - f ≤ 2000) : nearB f t = true := by
  unfold nearB; rw [decide_eq_true_eq]; exact h
theorem near_any (f t : Int) (w : World) : Calls Tryd.prog 24 #[.int .i64 f, .int .i64 t] w fun e w' => e = .returned (.bool (nearB f t)) ∧ w = w' := by
  have V1 := rvalid f w
  have V2 := rvalid t w
  cases hf : vdB f
  · have HR := Lib.hid (near_yes (f := f) (t := t) (Or.inl hf))
    rw [hf] at V1
    have V1 := Lib.hid V1; have V2 := Lib.hid V2
    clear hf
    go_enter Tryd.func24, Tryd.ntmps24
    go_wp2_with fail
    refine V1.out.mono ?_
    rintro e w1 ⟨rfl, rfl⟩
    go_wp2_with fail
    go_ret
    exact ⟨by rw [HR.out]; rfl, rfl⟩
  · cases ht : vdB t
    · have HR := Lib.hid (near_yes (f := f) (t := t) (Or.inr (Or.inl ht)))
      rw [hf] at V1; rw [ht] at V2
      have V1 := Lib.hid V1; have V2 := Lib.hid V2
      clear hf ht
      go_enter Tryd.func24, Tryd.ntmps24
      go_wp2_with fail
      refine V1.out.mono ?_
      rintro e w1 ⟨rfl, rfl⟩
      go_wp2_with fail
      refine V2.out.mono ?_
      rintro e w1 ⟨rfl, rfl⟩
      go_wp2_with fail
      go_ret
      exact ⟨by rw [HR.out]; rfl, rfl⟩
    · obtain ⟨f0, f1⟩ := (vd_iff f).1 hf
      obtain ⟨t0, t1⟩ := (vd_iff t).1 ht
      have HR : Hid (nearB f t = decide (t - f ≤ 2000)) := Lib.hid (by
        by_cases c : t - f ≤ 2000
        · rw [near_yes (Or.inr (Or.inr c)), decide_eq_true c]
        · rw [near_no hf ht c, decide_eq_false c])
      rw [hf] at V1; rw [ht] at V2
      have V1 := Lib.hid V1; have V2 := Lib.hid V2
      clear hf ht
      go_enter Tryd.func24, Tryd.ntmps24
      go_wp2_with fail
      refine V1.out.mono ?_
      rintro e w1 ⟨rfl, rfl⟩
      go_wp2_with fail
      refine V2.out.mono ?_
      rintro e w1 ⟨rfl, rfl⟩
      go_wp2_with fail
      go_ret
      exact ⟨by rw [HR.out]; rfl, rfl⟩

/-- From the front: what is left of a sum behind the weight of its first day. -/
theorem smI_front {b d t : Int} (hd : vdB d = true) (ht : vdB t = true) (h : d < t) : smI b d t - wtI b d = smI b (d + 1) t := by
  have v1 : vdB (d + 1) = true := by rw [vd_iff] at *; omega
  have a := smI_add (b := b) (f := d) (m := d + 1) (t := t) hd ht (by omega) (by omega)
  rw [smI_one hd v1] at a
  omega
/-- From a day to the same date of the next year. -/
theorem year_facts {y m d : Int} (h1 : dateB y m d = true) (h2 : dateB (y + 1) m d = true) :
    smI 4 (dayV y m d) (dayV (y + 1) m d) = 1603080 ∧ 1603080 ≤ smI 2 (dayV y m d) (dayV (y + 1) m d) ∧ (m = 1 → d = 1 → smI 3 (dayV y m d) (dayV (y + 1) m d) = 1603080) := by
  obtain ⟨e1, _⟩ := date_yes y m d h1
  obtain ⟨e2, _⟩ := date_yes (y + 1) m d h2
  have c1 := civ_of y m d h1
  have c2 := civ_of (y + 1) m d h2
  rw [← e1] at c1; rw [← e2] at c2
  obtain ⟨a1, a2, a3⟩ := c1.at
  obtain ⟨b1, b2, b3⟩ := c2.at
  have v1 := c1.vd; have v2 := c2.vd
  have n := ny_succ y
  have l1 := lp_01 y; have l2 := lp_01 (y + 1)
  have hc : cum y m ≤ cum (y + 1) m + lp y := by unfold cum; split <;> omega
  have hle : dayV y m d + 365 ≤ dayV (y + 1) m d := by omega
  refine ⟨?_, ?_, ?_⟩
  · rw [smI_yes v1 v2 (by omega), thI_yes v1 v2, if_neg (by omega), if_pos rfl]
    unfold t30
    rw [a1, a2, a3, b1, b2, b3]
    omega
  · rw [smI_yes v1 v2 (by omega), if_neg (by omega), if_neg (by omega)]
    have : csI 2 = 4392 := by decide
    rw [this]
    omega
  · rintro rfl rfl
    rw [smI_yes v1 v2 (by omega), if_pos rfl]
    unfold elI
    rw [a1, b1, e1, e2, cum_one, cum_one, show ny y + 0 + 1 - 1 - ny y = 0 by omega, show ny (y + 1) + 0 + 1 - 1 - ny (y + 1) = 0 by omega, Int.zero_mul, Int.zero_mul]
    omega
end Go.Proofs.YtnhealjngkhinaaDoor
