/-
  The law's closing.
-/
import Derived.Test.YtplkphihmfhciaaGreatDoorHK
namespace Go.Proofs.YtplkphihmfhciaaGreatDoor
open Go Go.RowKit Go.Lib Go.Shelf WM TM EM

theorem gs_self (l : List Tok) (i : Nat) : gs l i i = 0 := by
 unfold gs
 rw [Nat.sub_self, List.take_zero]; rfl
set_option maxRecDepth 100000 in
set_option maxHeartbeats 4000000 in
theorem mclosing (ao : Option Addr) (l : List Tok) (c i : Nat) (w : World) (hT : TokensAt ao l w) (hSB : SB l) (hi : i < l.length) (h40 : (l.getD i T0).2.2 = [40]) (hl : l.length ≤ 100000) :
  Calls Tryz.prog 25 #[.slice ao l.length c, .int .i64 (i : Int)] w fun r w' => ∃ k : Nat, r = .returned (.int .i64 (k : Int)) ∧ i < k ∧ k < l.length ∧ w = w' := by
 have HT := Lib.hid hT
 have HE := Lib.hid (gs_all l i hSB)
 have H4 := Lib.hid h40
 obtain ⟨n, hn⟩ : ∃ n, l.length = n := ⟨_, rfl⟩
 have HN := Lib.hid hn
 rw [hn] at hi hl ⊢
 rw [hn] at HE
 have hiI : (i : Int) < (n : Int) := by omega
 clear hT hSB hn h40
 go_enter Tryz.func25, Tryz.ntmps25
 go_wp2_with fail
 go_loop [5, 6] (fun y x => ∃ (j : Nat) (g : Int), i ≤ j ∧ j ≤ n ∧ x = .int .i64 (j : Int) ∧ y = .int .i64 g ∧ g = gs l i j ∧ 0 ≤ g ∧ g ≤ (j : Int) ∧ (j = i ∨ 1 ≤ g)) (fun _ x => n - (RowKit.intOf x).toNat)
 case atStart => exact ⟨i, 0, Nat.le_refl _, by omega, rfl, rfl, (gs_self l i).symm, Int.le_refl _, by omega, Or.inl rfl⟩
 case round =>
  obtain ⟨j, g, hij, hjn, rfl, rfl, hg, hg0, hgj, hj1⟩ := hrel
  have HG := Lib.hid hg
  clear hg
  by_cases hlt : j < n
  rotate_left
  ·exfalso
   have he : j = n := by omega
   subst he
   have h1 := HE.out
   rw [← HG.out] at h1
   omega
  ·have hjz : (j : Int) < (n : Int) := by omega
   obtain ⟨b, off, rfl, hb, c0, c1, c2⟩ := HT.out j (by rw [HN.out]; exact hlt)
   have hs := gs_step l i j hij (by rw [HN.out]; exact hlt)
   have hx4 : j = i → (l.getD j T0).2.2 = [40] := fun e => by rw [e]; exact H4.out
   obtain ⟨u, hu⟩ : ∃ u, l.getD j T0 = u := ⟨_, rfl⟩
   rw [hu] at hs hx4 c0 c1 c2
   obtain ⟨uk, ul, ux⟩ := u
   simp only at hs hx4 c0 c1 c2
   rw [← HG.out] at hs
   clear hu
   rcases dx_cases ux with ⟨h, hd⟩ | ⟨h, hd⟩ | ⟨h, h2, hd⟩
   ·subst h
    have c2' : w.cell? ⟨b, off + j * 3 + 2, none⟩ = some (.string ⟨#[40]⟩) := c2
    have gz : ((g + 1 : Int) == 0) = false := by rw [beq_eq_false_iff_ne]; omega
    rw [hd] at hs
    have HS := Lib.hid hs
    clear hs hx4 hd c2
    go_wp2_with fail
    go_round
    case rel => exact ⟨j + 1, g + 1, by omega, by omega, by go_num, rfl, HS.out.symm, by omega, by omega, Or.inr (by omega)⟩
    case measure => simp [RowKit.intOf]; omega
   ·subst h
    have c2' : w.cell? ⟨b, off + j * 3 + 2, none⟩ = some (.string ⟨#[41]⟩) := c2
    have hji : j ≠ i := fun e => absurd (hx4 e) (by decide)
    have hg1 : 1 ≤ g := by omega
    rw [hd] at hs
    have HS := Lib.hid hs
    clear hs hx4 hd c2
    by_cases hg2 : g = 1
    ·subst hg2
     go_wp2_with fail
     go_ret
     exact ⟨j, rfl, by omega, hlt, rfl⟩
    ·have gz : ((g - 1 : Int) == 0) = false := by rw [beq_eq_false_iff_ne]; omega
     go_wp2_with fail
     go_round
     case rel => exact ⟨j + 1, g - 1, by omega, by omega, by go_num, rfl, HS.out.symm, by omega, by omega, Or.inr (by omega)⟩
     case measure => simp [RowKit.intOf]; omega
   ·have hji : j ≠ i := fun e => h (hx4 e)
    have hg1 : 1 ≤ g := by omega
    have gz : (g == 0) = false := by rw [beq_eq_false_iff_ne]; omega
    have d1 : ((str ux).toList == [40]) = false := by rw [toList_str]; exact beq_eq_false_iff_ne.2 h
    have d2 : ((str ux).toList == [41]) = false := by rw [toList_str]; exact beq_eq_false_iff_ne.2 h2
    have d3 : ¬ (str ux).toList = [40] := by rw [toList_str]; exact h
    have d4 : ¬ (str ux).toList = [41] := by rw [toList_str]; exact h2
    rw [hd] at hs
    have HS := Lib.hid hs
    clear hs hx4 hd h h2
    go_wp2_with fail
    go_round
    case rel => exact ⟨j + 1, g, by omega, by omega, by go_num, rfl, by rw [HS.out]; omega, by omega, by omega, Or.inr (by omega)⟩
    case measure => simp [RowKit.intOf]; omega
end Go.Proofs.YtplkphihmfhciaaGreatDoor
