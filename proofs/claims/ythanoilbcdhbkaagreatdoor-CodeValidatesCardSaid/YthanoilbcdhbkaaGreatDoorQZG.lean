/-
  The document's Result; variables, both sides; short.
-/
import Derived.Test.YthanoilbcdhbkaaGreatDoorQZF
import Derived.Test.YthanoilbcdhbkaaGreatDoorQHV
namespace Go.Proofs.YthanoilbcdhbkaaGreatDoor
open Go Go.RowKit Go.Lib Go.Shelf WM TM EM YM

set_option maxRecDepth 100000 in
set_option maxHeartbeats 4000000 in
theorem rResult (o : Int) (l : List Int) (ao : Option Addr) (cap : Nat) (w : World) (h : IntsAt ao l w) :
  Calls Tryz.prog 71 #[.int .i64 o, .slice ao l.length cap] w fun r w' => r = .returned (.tuple #[.int .i64 ((resO o l).getD 0), .bool (resO o l).isSome]) ∧ Below w.heap.size w w' := by
 have C9 := Lib.hid (fun W (hW : Below w.heap.size w W) (h3 : l.length ≤ 3) => rresult o l ao cap W (h.keep hW) h3)
 obtain ⟨n, hn⟩ : ∃ n, l.length = n := ⟨_, rfl⟩
 obtain ⟨R, hR⟩ : ∃ R, resO o l = R := ⟨_, rfl⟩
 obtain ⟨Q, hQ⟩ : ∃ Q, rawO o l = Q := ⟨_, rfl⟩
 have HI := Lib.hid h
 have HN := Lib.hid hn
 have HR := Lib.hid hR
 have HQ9 : Hid (l.all good = true → R = Q) := Lib.hid (fun hg => by rw [← hR, ← hQ]; unfold resO; rw [if_pos hg])
 obtain ⟨V, hV⟩ : ∃ V, R.getD 0 = V := ⟨_, rfl⟩
 obtain ⟨S, hS⟩ : ∃ S, R.isSome = S := ⟨_, rfl⟩
 rw [hn, hQ] at C9
 rw [hn, hR, hV, hS]
 have HVS := Lib.hid (And.intro hV hS)
 clear h hR hV hS hQ
 by_cases h3 : 3 < n
 ·have h3z : (3 : Int) < (n : Int) := by omega
  have hr : R = none := by rw [← HR.out]; exact res_long o l (by omega)
  subst hr
  obtain ⟨rfl, rfl⟩ := HVS.out
  clear hn h3
  go_enter Tryz.func71, Tryz.ntmps71
  go_wp2_with fail
  go_ret2
  exact ⟨rfl, by repeat (first | exact bref _ | refine bdr ?_ | refine bal ?_ _)⟩
 have h3z : ¬ (3 : Int) < (n : Int) := by omega
 have hn3 : n ≤ 3 := by omega
 clear hn h3
 go_enter Tryz.func71, Tryz.ntmps71
 go_wp2_with fail
 go_loopw [6] (fun i wr => ∃ (k : Nat), k ≤ n ∧ i = .int .i64 k ∧ (l.take k).all good = true ∧ Below w.heap.size w wr) (fun i _ => n - (RowKit.intOf i).toNat)
 case atStart => exact ⟨0, by omega, rfl, rfl, bref _⟩
 case round =>
  obtain ⟨k, hk, rfl, hq, hB⟩ := hrel
  have HQ := Lib.hid hq
  have HB := Lib.hid hB
  clear hq hB
  by_cases hlt : k < n
  ·have hkz : (k : Int) < (n : Int) := by omega
   have g1 : k < l.length := by rw [HN.out]; exact hlt
   obtain ⟨b, off, rfl, hb, c0⟩ := (HI.out.keep HB.out) k g1
   have HL := Lib.hid (fun hg => all_next' l k g1 HQ.out hg)
   have HL2 := Lib.hid (fun hg => all_bad l k g1 hg)
   obtain ⟨t, ht⟩ : ∃ t, l.getD k 0 = t := ⟨_, rfl⟩
   rw [ht] at c0 HL HL2
   have C1 := Lib.hid (fun W => rgood t W)
   clear ht g1
   cases hg : good t with
   | false =>
    rw [hg] at C1
    have hr : Hid (R = none) := Lib.hid (by rw [← HR.out]; exact res_bad o l (HL2.out hg))
    clear hg
    go_wp2_with (go_at_call 46; refine (C1.out _).mono ?_; rintro r2 w2 ⟨rfl, hb2⟩)
    go_ret2
    exact ⟨by rw [← HVS.out.1, ← HVS.out.2, hr.out]; rfl, btr HB.out hb2⟩
   | true =>
    rw [hg] at C1
    have HG := Lib.hid (HL.out hg)
    clear hg
    go_wp2_with (go_at_call 46; refine (C1.out _).mono ?_; rintro r2 w2 ⟨rfl, hb2⟩)
    go_roundw
    case rel => exact ⟨k + 1, by omega, by go_num, HG.out, btr HB.out hb2⟩
    case measure => simp [RowKit.intOf]; omega
  ·have he : k = n := by omega
   subst he
   have hll : l.take l.length = l := List.take_length
   have hqr : Hid (R = Q) := Lib.hid (HQ9.out (by have := HQ.out; rw [← HN.out, hll] at this; exact this))
   have C0 := Lib.hid (fun W (hW : Below wr.heap.size wr W) => C9.out W (btr HB.out hW) hn3)
   clear hll hn3 hk hlt
   cases Q with
   | none =>
    simp only [Option.isSome] at C0
    go_wp2_with (go_at_call 94; refine (C0.out _ (bref _)).mono ?_; rintro r2 w2 ⟨v, rfl, hv, hb2⟩)
    go_ret2
    exact ⟨by rw [← HVS.out.1, ← HVS.out.2, hqr.out]; rfl, btr HB.out hb2⟩
   | some t =>
    simp only [Option.isSome] at C0
    go_wp2_with (go_at_call 94; refine (C0.out _ (bref _)).mono ?_; rintro r2 w2 ⟨v, rfl, hv, hb2⟩; have HVV := Lib.hid (hv t rfl); clear hv)
    go_ret2
    exact ⟨by rw [← HVS.out.1, ← HVS.out.2, hqr.out, HVV.out]; rfl, btr HB.out hb2⟩

def shortB (l : List Vr) : Bool := l.all (fun v => decide (v.1.length ≤ 100)) && decide (l.length ≤ 100)
end Go.Proofs.YthanoilbcdhbkaaGreatDoor
