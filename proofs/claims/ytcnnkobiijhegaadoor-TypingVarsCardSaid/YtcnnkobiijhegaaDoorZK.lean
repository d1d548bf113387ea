/-
  The walks of TypingResults and TypingVars.
-/
import Derived.Test.YtcnnkobiijhegaaDoorZJ
namespace Go.Proofs.YtcnnkobiijhegaaDoor
open Go Go.RowKit Go.Lib Go.Shelf WM TM EM YM

set_option maxRecDepth 100000 in
set_option maxHeartbeats 4000000 in
theorem typingResults (o : Int) (l : List Int) (ao : Option Addr) (cap : Nat) (w : World) (hG : Ge w) (h : IntsAt ao l w) :
    Calls Tryd.prog 3 #[.int .i64 o, .slice ao l.length cap] w fun r w' => r = .returned (.bool true) ∧ Below w.heap.size w w' := by
  have C1 := Lib.hid (fun W (hW : Below w.heap.size w W) => mResult o l ao cap W (h.keep hW))
  have C2 := Lib.hid (fun W (hW : Below w.heap.size w W) => rResult o l ao cap W (h.keep hW))
  have CL := Lib.hid (fun W (hW : Below w.heap.size w W) => mlive W (hG.keep hW))
  obtain ⟨n, hn⟩ : ∃ n, l.length = n := ⟨_, rfl⟩
  obtain ⟨V, hV⟩ : ∃ V, (resO o l).getD 0 = V := ⟨_, rfl⟩
  obtain ⟨S, hS⟩ : ∃ S, (resO o l).isSome = S := ⟨_, rfl⟩
  rw [hn, hV, hS] at C1 C2
  rw [hn]
  clear h hG hn hV hS
  by_cases hb : 100 < n
  · have hz : (100 : Int) < (n : Int) := by omega
    go_enter Tryd.func3, Tryd.ntmps3
    go_wp2_with fail
    refine (CL.out _ (bref _)).mono ?_
    rintro r w1 ⟨rfl, hb1⟩
    go_wp2_with fail
    go_ret
    exact ⟨rfl, hb1⟩
  · have hz : ¬ (100 : Int) < (n : Int) := by omega
    go_enter Tryd.func3, Tryd.ntmps3
    go_wp2_with fail
    refine (C1.out _ (bref _)).mono ?_
    rintro r w1 ⟨rfl, hb1⟩
    have HB1 := Lib.hid hb1
    clear hb1
    go_wp2_with fail
    refine (C2.out _ HB1.out).mono ?_
    rintro r w2 ⟨rfl, hb2⟩
    have HB2 := Lib.hid (btr HB1.out hb2)
    clear hb2
    have e1 : (V == V) = true := by simp
    have e2 : (S == S) = true := by simp
    go_wp2_with fail
    refine (CL.out _ HB2.out).mono ?_
    rintro r w3 ⟨rfl, hb3⟩
    go_wp2_with fail
    go_ret
    exact ⟨rfl, btr HB2.out hb3⟩
set_option maxRecDepth 100000 in
set_option maxHeartbeats 4000000 in
theorem typingVars (l : List Vr) (ao : Option Addr) (cap : Nat) (w : World) (hG : Ge w) (hc : l.length ≤ cap) (h : VarsAt ao l w) :
    Calls Tryd.prog 4 #[.slice ao l.length cap] w fun r w' => r = .returned (.bool true) ∧ Below w.heap.size w w' := by
  have C0 := Lib.hid (fun W (hW : Below w.heap.size w W) => lshort l ao cap W (h.keep hW))
  have C1 := Lib.hid (fun W (hW : Below w.heap.size w W) => mVars l ao cap W (hG.keep hW) hc (h.keep hW))
  have C2 := Lib.hid (fun W (hW : Below w.heap.size w W) => rVars l ao cap W (h.keep hW))
  have CL := Lib.hid (fun W (hW : Below w.heap.size w W) => mlive W (hG.keep hW))
  obtain ⟨n, hn⟩ : ∃ n, l.length = n := ⟨_, rfl⟩
  obtain ⟨V, hV⟩ : ∃ V, vsE l = V := ⟨_, rfl⟩
  obtain ⟨S, hS⟩ : ∃ S, shortB l = S := ⟨_, rfl⟩
  rw [hn] at C0 C1 C2
  rw [hV] at C1 C2
  rw [hS] at C0
  rw [hn]
  clear h hG hn hV hS hc
  have e1 : (V == V) = true := by simp
  cases S with
  | false =>
    go_enter Tryd.func4, Tryd.ntmps4
    go_wp2_with fail
    refine (C0.out _ (bref _)).mono ?_
    rintro r w1 ⟨rfl, hb1⟩
    have HB1 := Lib.hid hb1
    clear hb1
    go_wp2_with fail
    refine (CL.out _ HB1.out).mono ?_
    rintro r w2 ⟨rfl, hb2⟩
    go_wp2_with fail
    go_ret
    exact ⟨rfl, btr HB1.out hb2⟩
  | true =>
    go_enter Tryd.func4, Tryd.ntmps4
    go_wp2_with fail
    refine (C0.out _ (bref _)).mono ?_
    rintro r w1 ⟨rfl, hb1⟩
    have HB1 := Lib.hid hb1
    clear hb1
    go_wp2_with fail
    refine (C1.out _ HB1.out).mono ?_
    rintro r w2 ⟨rfl, hb2⟩
    have HB2 := Lib.hid (btr HB1.out hb2)
    clear hb2
    go_wp2_with fail
    refine (C2.out _ HB2.out).mono ?_
    rintro r w3 ⟨rfl, hb3⟩
    have HB3 := Lib.hid (btr HB2.out hb3)
    clear hb3
    go_wp2_with fail
    refine (CL.out _ HB3.out).mono ?_
    rintro r w4 ⟨rfl, hb4⟩
    go_wp2_with fail
    go_ret
    exact ⟨rfl, btr HB3.out hb4⟩
end Go.Proofs.YtcnnkobiijhegaaDoor
