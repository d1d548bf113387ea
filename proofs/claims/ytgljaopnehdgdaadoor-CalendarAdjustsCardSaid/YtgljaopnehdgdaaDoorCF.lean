/-
  Contracts of package calendar's Open, and of the document's own.
-/
import Derived.Test.YtgljaopnehdgdaaDoorCE
namespace Go.Proofs.YtgljaopnehdgdaaDoor
open Go Go.RowKit Go.Lib WM

theorem opB_of (we ho : List Int) (d : Int) (h : vdB d = true) : opB we ho d = dOpen we ho d := by unfold opB; rw [h, Bool.true_and]
theorem opB_no (we ho : List Int) (d : Int) (h : vdB d = false) : opB we ho d = false := by unfold opB; rw [h, Bool.false_and]

set_option maxRecDepth 100000 in
set_option maxHeartbeats 1000000 in
theorem mOpen (nm : ByteArray) (wo hp : Option Addr) (wc hc : Nat) (we ho : List Int) (day : Int) (w : World) (hc0 : CalAt wo hp we ho w) :
    Calls Tryd.prog 22 #[.agg #[.string nm, .slice wo we.length wc, .slice hp ho.length hc], .int .i64 day] w fun e w' => e = .returned (.bool (opB we ho day)) ∧ Below w.heap.size w w' := by
  have CV := fun W => mvalid day W
  cases hv : vdB day
  · rw [opB_no we ho day hv]
    rw [hv] at CV
    have CV := Lib.hid CV
    clear hv hc0
    go_enter Tryd.func22, Tryd.ntmps22
    go_wp2_with fail
    refine (CV.out _).mono ?_
    rintro e w1 ⟨rfl, rfl⟩
    go_wp2_with fail
    go_ret
    exact ⟨rfl, bal (bref _) _⟩
  · rw [opB_of we ho day hv]
    rw [hv] at CV
    have CV := Lib.hid CV
    have C1 := Lib.hid (fun W h => mopening nm wo hp wc hc we ho W h)
    have C2 := fun b1 b2 W h => mopen we ho b1 b2 day hv W h
    have HC := Lib.hid hc0
    cases hO : dOpen we ho day
    · rw [hO] at C2
      have C2 := Lib.hid C2
      clear hv hc0 hO
      go_enter Tryd.func22, Tryd.ntmps22
      go_wp2_with fail
      refine (CV.out _).mono ?_
      rintro e w1 ⟨rfl, rfl⟩
      go_wp2_with fail
      refine (C1.out _ (HC.out.keep (bal (bref _) _))).mono ?_
      rintro e w1 ⟨b1, b2, rfl, hS, hB⟩
      have B1 := Lib.hid (btr (bal (bref _) _) hB)
      have HS := Lib.hid hS
      clear hS hB
      go_wp2_with fail
      refine (C2.out _ _ _ HS.out).mono ?_
      rintro e w2 ⟨rfl, rfl⟩
      go_wp2_with fail
      go_ret
      exact ⟨rfl, B1.out⟩
    · rw [hO] at C2
      have C2 := Lib.hid C2
      clear hv hc0 hO
      go_enter Tryd.func22, Tryd.ntmps22
      go_wp2_with fail
      refine (CV.out _).mono ?_
      rintro e w1 ⟨rfl, rfl⟩
      go_wp2_with fail
      refine (C1.out _ (HC.out.keep (bal (bref _) _))).mono ?_
      rintro e w1 ⟨b1, b2, rfl, hS, hB⟩
      have B1 := Lib.hid (btr (bal (bref _) _) hB)
      have HS := Lib.hid hS
      clear hS hB
      go_wp2_with fail
      refine (C2.out _ _ _ HS.out).mono ?_
      rintro e w2 ⟨rfl, rfl⟩
      go_wp2_with fail
      go_ret
      exact ⟨rfl, B1.out⟩

set_option maxRecDepth 100000 in
set_option maxHeartbeats 2000000 in
theorem rOpen (nm : ByteArray) (wo hp : Option Addr) (wc hc : Nat) (we ho : List Int) (day : Int) (w : World) (hc0 : CalAt wo hp we ho w) :
    Calls Tryd.prog 23 #[.agg #[.string nm, .slice wo we.length wc, .slice hp ho.length hc], .int .i64 day] w fun e w' => e = .returned (.bool (opB we ho day)) ∧ Below w.heap.size w w' := by
  have CV := fun W => rvalid day W
  have hwl := hc0.wl
  have hhl := hc0.hl
  cases hv : vdB day
  · rw [opB_no we ho day hv]
    rw [hv] at CV
    have CV := Lib.hid CV
    clear hv hc0
    go_enter Tryd.func23, Tryd.ntmps23
    go_wp2_with fail
    go_quiet (first | (go_at_call 30; with_reducible refine quiet_left (CV.out _)))
    go_wp2_with fail
    go_ret
    exact ⟨rfl, bdn (bal (bref _) _) _⟩
  · rw [opB_of we ho day hv]
    rw [hv] at CV
    have CV := Lib.hid CV
    have CW := fun W => rweek day W
    rw [hv] at CW
    simp only [if_true] at CW
    have HC := fun m => hc0.keep (bdn (bal (bref w) (.cells #[.string nm, .slice wo we.length wc, .slice hp ho.length hc] 24)) m)
    have C1 := fun m => rhas wo wc we (wdI day) _ hwl (HC m).wk
    have C2 := fun m => rhas hp hc ho day _ hhl (HC m).hd
    unfold wdI at C1
    have hD : dOpen we ho day = (!(we.contains ((day + 5) % 7)) && !(ho.contains day)) := rfl
    obtain ⟨b1, b2⟩ := (vd_iff day).1 hv
    obtain ⟨wd, hwd⟩ : ∃ wd, (day + 5) % 7 = wd := ⟨_, rfl⟩
    rw [hwd] at CW hD
    simp only [hwd] at C1
    have CW := Lib.hid CW
    cases hA : we.contains wd
    · cases hB : ho.contains day
      · rw [hA, hB] at hD
        simp only [hA] at C1
        simp only [hB] at C2
        rw [hD]
        have C1 := Lib.hid C1
        have C2 := Lib.hid C2
        clear hv hc0 hD hwd HC hA hB
        go_enter Tryd.func23, Tryd.ntmps23
        go_wp2_with fail
        go_quiet (first | (go_at_call 30; with_reducible refine quiet_left (CV.out _)) | (go_at_call 44; with_reducible refine quiet_left (CW.out _)) | (go_at_call 43; with_reducible refine quiet_left (C1.out _)) | (go_at_call 43; with_reducible refine quiet_left (C2.out _)))
        go_wp2_with fail
        go_ret
        exact ⟨rfl, bdn (bal (bref _) _) _⟩
      · rw [hA, hB] at hD
        simp only [hA] at C1
        simp only [hB] at C2
        rw [hD]
        have C1 := Lib.hid C1
        have C2 := Lib.hid C2
        clear hv hc0 hD hwd HC hA hB
        go_enter Tryd.func23, Tryd.ntmps23
        go_wp2_with fail
        go_quiet (first | (go_at_call 30; with_reducible refine quiet_left (CV.out _)) | (go_at_call 44; with_reducible refine quiet_left (CW.out _)) | (go_at_call 43; with_reducible refine quiet_left (C1.out _)) | (go_at_call 43; with_reducible refine quiet_left (C2.out _)))
        go_wp2_with fail
        go_ret
        exact ⟨rfl, bdn (bal (bref _) _) _⟩
    · rw [hA] at hD
      simp only [hA] at C1
      rw [hD]
      have C1 := Lib.hid C1
      clear hv hc0 hD hwd HC hA C2
      go_enter Tryd.func23, Tryd.ntmps23
      go_wp2_with fail
      go_quiet (first | (go_at_call 30; with_reducible refine quiet_left (CV.out _)) | (go_at_call 44; with_reducible refine quiet_left (CW.out _)) | (go_at_call 43; with_reducible refine quiet_left (C1.out _)))
      go_wp2_with fail
      go_ret
      exact ⟨rfl, bdn (bal (bref _) _) _⟩
end Go.Proofs.YtgljaopnehdgdaaDoor
