/-
  The contract of package calendar's search, over any condition.
-/
import Derived.Test.YtgljaopnehdgdaaDoorCC
import Derived.Shelf.Abstract
namespace Go.Proofs.YtgljaopnehdgdaaDoor
open Go Go.RowKit Go.Lib WM

set_option maxHeartbeats 1000000 in
theorem msearch_up (g : Nat) (lb : Array Value) (eg : ∀ args w, (callFunc g args).run Tryd.prog w = .ok (.enter g args) w) (I F : Int → World → Prop)
    (hq : ∀ d W, vdB d = true → I d W → Calls Tryd.prog g (#[.int .i64 d] ++ lb) W fun e W' => ∃ b, e = .returned (.bool b) ∧ (b = true → F d W') ∧ (b = false → I (d + 1) W'))
    (day : Int) (h0 : 0 ≤ day) (h1 : day ≤ 73049) (w : World) (hI : I day w) :
    Calls Tryd.prog 41 #[.int .i64 day, .int .i64 1, .func (.func g) #[] lb] w fun e w' =>
      (∃ d, e = .returned (.tuple #[.int .i64 d, .int .i64 0]) ∧ F d w') ∨ (∃ d, 73048 < d ∧ e = .returned (.tuple #[.int .i64 0, .int .i64 11]) ∧ I d w') := by
  have HQ := Lib.hid hq
  have HI := Lib.hid hI
  clear hq hI
  go_enter Tryd.func41, Tryd.ntmps41
  go_wp2_with fail
  go_loopw [0] (fun x wr => ∃ d : Int, x = .int .i64 d ∧ 0 ≤ d ∧ d ≤ 73049 ∧ I d wr) (fun x _ => (73049 - RowKit.intOf x).toNat)
  case atStart => exact ⟨day, rfl, h0, h1, HI.out⟩
  case round =>
    clear HI h0 h1
    obtain ⟨d, rfl, d0, d1, hI⟩ := hrel
    have HI := Lib.hid hI
    clear hI
    have CV := fun W => mvalid d W
    by_cases hd : d ≤ 73048
    · have hv := vd_yes d d0 hd
      rw [hv] at CV
      have CV := Lib.hid CV
      have C2 := Lib.hid (fun W h => HQ.out d W hv h)
      clear hv HQ
      go_wp2_with (first | (go_at_call 40; refine (CV.out _).mono ?_; rintro e w1 ⟨rfl, rfl⟩) | (go_at_fn g; refine (C2.out _ HI.out).mono ?_; rintro e w1 ⟨b, rfl, hF, hN⟩))
      · go_ret2
        exact Or.inl ⟨d, rfl, hF (by assumption)⟩
      · go_roundw
        case rel => exact ⟨d + 1, rfl, by omega, by omega, hN (by assumption)⟩
        case measure => simp [RowKit.intOf]; omega
    · have he : d = 73049 := by omega
      subst he
      rw [vd_no 73049 (by omega)] at CV
      have CV := Lib.hid CV
      clear HQ
      go_wp2_with (first | (go_at_call 40; refine (CV.out _).mono ?_; rintro e w1 ⟨rfl, rfl⟩))
      go_ret2
      exact Or.inr ⟨73049, by omega, rfl, HI.out⟩

set_option maxHeartbeats 1000000 in
theorem msearch_dn (g : Nat) (lb : Array Value) (eg : ∀ args w, (callFunc g args).run Tryd.prog w = .ok (.enter g args) w) (I F : Int → World → Prop)
    (hq : ∀ d W, vdB d = true → I d W → Calls Tryd.prog g (#[.int .i64 d] ++ lb) W fun e W' => ∃ b, e = .returned (.bool b) ∧ (b = true → F d W') ∧ (b = false → I (d - 1) W'))
    (day : Int) (h0 : -1 ≤ day) (h1 : day ≤ 73048) (w : World) (hI : I day w) :
    Calls Tryd.prog 41 #[.int .i64 day, .int .i64 (-1), .func (.func g) #[] lb] w fun e w' =>
      (∃ d, e = .returned (.tuple #[.int .i64 d, .int .i64 0]) ∧ F d w') ∨ (∃ d, d < 0 ∧ e = .returned (.tuple #[.int .i64 0, .int .i64 11]) ∧ I d w') := by
  have HQ := Lib.hid hq
  have HI := Lib.hid hI
  clear hq hI
  go_enter Tryd.func41, Tryd.ntmps41
  go_wp2_with fail
  go_loopw [0] (fun x wr => ∃ d : Int, x = .int .i64 d ∧ -1 ≤ d ∧ d ≤ 73048 ∧ I d wr) (fun x _ => (RowKit.intOf x + 1).toNat)
  case atStart => exact ⟨day, rfl, h0, h1, HI.out⟩
  case round =>
    clear HI h0 h1
    obtain ⟨d, rfl, d0, d1, hI⟩ := hrel
    have HI := Lib.hid hI
    clear hI
    have CV := fun W => mvalid d W
    by_cases hd : 0 ≤ d
    · have hv := vd_yes d hd d1
      rw [hv] at CV
      have CV := Lib.hid CV
      have C2 := Lib.hid (fun W h => HQ.out d W hv h)
      have hw1 : IntKind.i64.wrap (d + -1) = d - 1 := by rw [IntKind.wrap_i64]; omega
      clear hv HQ
      go_wp2_with (first | (go_at_call 40; refine (CV.out _).mono ?_; rintro e w1 ⟨rfl, rfl⟩) | (go_at_fn g; refine (C2.out _ HI.out).mono ?_; rintro e w1 ⟨b, rfl, hF, hN⟩))
      · go_ret2
        exact Or.inl ⟨d, rfl, hF (by assumption)⟩
      · go_roundw
        case rel => exact ⟨d - 1, by go_num, by omega, by omega, hN (by assumption)⟩
        case measure => simp [RowKit.intOf]; omega
    · have he : d = -1 := by omega
      subst he
      rw [vd_no (-1) (by omega)] at CV
      have CV := Lib.hid CV
      clear HQ
      go_wp2_with (first | (go_at_call 40; refine (CV.out _).mono ?_; rintro e w1 ⟨rfl, rfl⟩))
      go_ret2
      exact Or.inr ⟨-1, by omega, rfl, HI.out⟩
end Go.Proofs.YtgljaopnehdgdaaDoor
