/-
  Lists of variables in memory; the library's IndexFunc; find, declared.
-/
import Derived.Test.YthanoilbcdhbkaaGreatDoorQZC
import Derived.Test.YthanoilbcdhbkaaGreatDoorQG
import Derived.Shelf.Abstract
namespace Go.Proofs.YthanoilbcdhbkaaGreatDoor
open Go Go.RowKit Go.Lib Go.Shelf WM TM EM YM

def VarsAt (ao : Option Addr) (l : List Vr) (w : World) : Prop := ∀ i, i < l.length → ∃ b off, ao = some ⟨b, off, none⟩ ∧ b < w.heap.size ∧
 w.cell? ⟨b, off + i * 2, none⟩ = some (.string (str (l.getD i V0).1)) ∧ w.cell? ⟨b, off + i * 2 + 1, none⟩ = some (.int .i64 (l.getD i V0).2)
theorem VarsAt.keep {ao : Option Addr} {l : List Vr} {w w' : World} (h : VarsAt ao l w) (hb : Below w.heap.size w w') : VarsAt ao l w' := by
 intro i hi
 obtain ⟨b, off, e, hbw, c1, c2⟩ := h i hi
 exact ⟨b, off, e, by have := hb.size; omega, keepc hb c1, keepc hb c2⟩
theorem VarsAt.nil (ao : Option Addr) (w : World) : VarsAt ao [] w := fun _ hi => absurd hi (Nat.not_lt_zero _)
theorem getD_take {α : Type} (d : α) (l : List α) (k j : Nat) (h : j < k) : (l.take k).getD j d = l.getD j d := by
 simp [List.getD, h]
theorem VarsAt.take {ao : Option Addr} {l : List Vr} {w : World} (h : VarsAt ao l w) (k : Nat) : VarsAt ao (l.take k) w := by
 intro i hi
 rw [List.length_take] at hi
 obtain ⟨b, off, e, hbw, c1, c2⟩ := h i (by omega)
 rw [getD_take V0 l k i (by omega)]
 exact ⟨b, off, e, hbw, c1, c2⟩
set_option maxRecDepth 100000 in
theorem mfind1 (v : Vr) (s : List UInt8) (bx : Nat) (w : World) (hc : w.cell? ⟨bx, 0, none⟩ = some (.string (str s))) :
  Calls Tryz.prog 79 #[.agg #[.string (str v.1), .int .i64 v.2], .pointer (some ⟨bx, 0, none⟩)] w fun r w' => r = .returned (.bool (decide (v.1 = s))) ∧ Below w.heap.size w w' := by
 obtain ⟨x, t⟩ := v
 simp only
 have hlt : bx < w.heap.size := World.block_lt_of_cell? w _ hc
 by_cases h : x = s
 ·subst h
  obtain ⟨X, hX⟩ : ∃ X, str x = X := ⟨_, rfl⟩
  rw [hX] at hc ⊢
  rw [decide_eq_true rfl]
  clear hX
  go_enter Tryz.func79, Tryz.ntmps79
  go_wp2_with fail
  go_ret
  exact ⟨by simp, by repeat (first | exact bref _ | refine bdr ?_ | refine bal ?_ _)⟩
 ·have hs1 := str_ne h
  rw [decide_eq_false h]
  clear h
  obtain ⟨X, hX⟩ : ∃ X, str x = X := ⟨_, rfl⟩
  obtain ⟨Y, hY⟩ : ∃ X, str s = X := ⟨_, rfl⟩
  rw [hX, hY] at hs1
  rw [hX]
  rw [hY] at hc
  clear hX hY
  go_enter Tryz.func79, Tryz.ntmps79
  go_wp2_with fail
  go_ret
  exact ⟨by simp, by repeat (first | exact bref _ | refine bdr ?_ | refine bal ?_ _)⟩
set_option maxRecDepth 100000 in
set_option maxHeartbeats 2000000 in
theorem mindex (vs : List Vr) (s : List UInt8) (bx : Nat) (ao : Option Addr) (cap : Nat) (w : World) (hvl : vs.length ≤ 100000) (hv : VarsAt ao vs w) (hc : w.cell? ⟨bx, 0, none⟩ = some (.string (str s))) :
  Calls Tryz.prog 78 #[.slice ao vs.length cap, .func (.func 79) #[] #[.pointer (some ⟨bx, 0, none⟩)]] w fun r w' => r = .returned (.int .i64 (fixI vs s)) ∧ Below w.heap.size w w' := by
 have HV := Lib.hid hv
 have HC := Lib.hid hc
 obtain ⟨n, hn⟩ : ∃ n, vs.length = n := ⟨_, rfl⟩
 have HN := Lib.hid hn
 obtain ⟨R, hR⟩ : ∃ R, fixI vs s = R := ⟨_, rfl⟩
 have HR := Lib.hid hR
 rw [hn, hR]
 rw [hn] at hvl
 clear hv hc hn hR
 go_enter Tryz.func78, Tryz.ntmps78
 go_wp2_with fail
 go_loopw [8] (fun i wr => ∃ (k : Nat), k ≤ n ∧ i = .int .i64 k ∧ (∀ j, j < k → (vs.getD j V0).1 ≠ s) ∧ Below w.heap.size w wr) (fun i _ => n - (RowKit.intOf i).toNat)
 case atStart => exact ⟨0, by omega, rfl, fun j hj => absurd hj (Nat.not_lt_zero _), bref _⟩
 case round =>
  obtain ⟨k, hk, rfl, hq, hB⟩ := hrel
  have HQ := Lib.hid hq
  have HB := Lib.hid hB
  clear hq hB
  by_cases hlt : k < n
  ·have hkz : (k : Int) < (n : Int) := by omega
   have g1 : k < vs.length := by rw [HN.out]; exact hlt
   obtain ⟨b, off, rfl, hb, c0, c1⟩ := (HV.out.keep HB.out) k g1
   have C0 := Lib.hid (fun W (hW : Below wr.heap.size wr W) => mfind1 (vs.getD k V0) s bx W (keepc hW (keepc HB.out HC.out)))
   obtain ⟨x, hx⟩ : ∃ x, vs.getD k V0 = x := ⟨_, rfl⟩
   rw [hx] at c0 c1 C0
   by_cases hxs : x.1 = s
   ·rw [decide_eq_true hxs] at C0
    have HRk : Hid (R = k) := Lib.hid (by rw [← HR.out]; exact fix_hit g1 HQ.out (by rw [hx]; exact hxs))
    clear hx hxs
    go_wp2_with (go_at_call 79; refine (C0.out _ (by repeat (first | exact bref _ | refine bdr ?_ | refine bal ?_ _))).mono ?_; rintro r w1 ⟨rfl, hb1⟩)
    go_ret
    exact ⟨by rw [HRk.out]; rfl, btr HB.out (btr (by repeat (first | exact bref _ | refine bdr ?_ | refine bal ?_ _)) hb1)⟩
   ·rw [decide_eq_false hxs] at C0
    have HX : Hid (∀ j, j < k + 1 → (vs.getD j V0).1 ≠ s) := Lib.hid (by
     intro j hj
     by_cases e : j = k
     ·subst e; rw [hx]; exact hxs
     ·exact HQ.out j (by omega))
    clear hx hxs
    go_wp2_with (go_at_call 79; refine (C0.out _ (by repeat (first | exact bref _ | refine bdr ?_ | refine bal ?_ _))).mono ?_; rintro r w1 ⟨rfl, hb1⟩)
    go_roundw
    case rel => exact ⟨k + 1, by omega, by go_num, HX.out, btr HB.out (btr (by repeat (first | exact bref _ | refine bdr ?_ | refine bal ?_ _)) hb1)⟩
    case measure => simp [RowKit.intOf]; omega
  ·have he : k = n := by omega
   subst he
   have HRk : Hid (R = -1) := Lib.hid (by rw [← HR.out]; exact fix_miss (by rw [HN.out]; exact HQ.out))
   go_wp2_with fail
   go_ret
   exact ⟨by rw [HRk.out]; rfl, HB.out⟩
set_option maxRecDepth 100000 in
theorem mfind (vs : List Vr) (X : ByteArray) (ao : Option Addr) (cap : Nat) (w : World) (hvl : vs.length ≤ 100000) (hv : VarsAt ao vs w) :
  Calls Tryz.prog 48 #[.slice ao vs.length cap, .string X] w fun r w' => r = .returned (.int .i64 (fixI vs (byt X))) ∧ Below w.heap.size w w' := by
 have C0 := Lib.hid (fun W (hW : Below w.heap.size w W) (bx : Nat) (hc : W.cell? ⟨bx, 0, none⟩ = some (.string X)) => mindex vs (byt X) bx ao cap W hvl (hv.keep hW) (by rw [str_byt]; exact hc))
 obtain ⟨n, hn⟩ : ∃ n, vs.length = n := ⟨_, rfl⟩
 obtain ⟨R, hR⟩ : ∃ R, fixI vs (byt X) = R := ⟨_, rfl⟩
 rw [hn, hR] at C0 ⊢
 clear hv hn hR
 go_enter Tryz.func48, Tryz.ntmps48
 go_wp2_with (go_at_call 78; refine (C0.out _ (by repeat (first | exact bref _ | refine bdr ?_ | refine bal ?_ _)) _ (by simp [go_sem])).mono ?_; rintro r w1 ⟨rfl, hb1⟩)
 go_ret
 exact ⟨rfl, btr (by repeat (first | exact bref _ | refine bdr ?_ | refine bal ?_ _)) hb1⟩
set_option maxRecDepth 100000 in
set_option maxHeartbeats 2000000 in
theorem mdeclared (vs : List Vr) (X : ByteArray) (ao : Option Addr) (cap : Nat) (w : World) (hvl : vs.length ≤ 100000) (hv : VarsAt ao vs w) :
  Calls Tryz.prog 80 #[.string X, .slice ao vs.length cap] w fun r w' => r = .returned (.tuple #[.int .i64 (YM.look vs (byt X)).1, .int .i64 (YM.look vs (byt X)).2]) ∧ Below w.heap.size w w' := by
 have C0 := Lib.hid (fun W (hW : Below w.heap.size w W) => mfind vs X ao cap W hvl (hv.keep hW))
 rcases nth_cases vs (byt X) with ⟨k, h1, h2, h3⟩ | h1
 ·rw [fix_hit h1 h2 h3] at C0
  rw [look_hit vs (byt X) k h1 h2 h3]
  obtain ⟨b, off, rfl, hb, c0, c1⟩ := hv k h1
  obtain ⟨n, hn⟩ : ∃ n, vs.length = n := ⟨_, rfl⟩
  obtain ⟨t, ht⟩ : ∃ t, (vs.getD k V0).2 = t := ⟨_, rfl⟩
  rw [hn] at C0 ⊢
  rw [ht] at c1 ⊢
  have hkn : (k : Int) < (n : Int) := by omega
  have hk0 : ¬ ((k : Int) < 0) := by omega
  have C1 := Lib.hid (fun W => mexists t W)
  clear hv h1 h2 h3 hn ht c0
  cases hg : good t with
  | true =>
   rw [hg] at C1
   simp only [if_true]
   clear hg
   go_enter Tryz.func80, Tryz.ntmps80
   go_wp2_with (first | (go_at_call 48; refine (C0.out _ (by repeat (first | exact bref _ | refine bdr ?_ | refine bal ?_ _))).mono ?_; rintro r w1 ⟨rfl, hb1⟩; have d1 := keepc hb1 c1) | (go_at_call 49; refine (C1.out _).mono ?_; rintro r2 w2 ⟨rfl, hb2⟩; have d2 := keepc hb2 d1))
   go_ret2
   exact ⟨rfl, btr hb1 hb2⟩
  | false =>
   rw [hg] at C1
   simp only [Bool.false_eq_true, if_false]
   clear hg
   go_enter Tryz.func80, Tryz.ntmps80
   go_wp2_with (first | (go_at_call 48; refine (C0.out _ (by repeat (first | exact bref _ | refine bdr ?_ | refine bal ?_ _))).mono ?_; rintro r w1 ⟨rfl, hb1⟩; have d1 := keepc hb1 c1) | (go_at_call 49; refine (C1.out _).mono ?_; rintro r2 w2 ⟨rfl, hb2⟩))
   go_ret2
   exact ⟨rfl, btr hb1 hb2⟩
 ·rw [fix_miss h1] at C0
  rw [look_miss vs (byt X) h1]
  obtain ⟨n, hn⟩ : ∃ n, vs.length = n := ⟨_, rfl⟩
  rw [hn] at C0 ⊢
  clear hv h1 hn
  go_enter Tryz.func80, Tryz.ntmps80
  go_wp2_with (go_at_call 48; refine (C0.out _ (by repeat (first | exact bref _ | refine bdr ?_ | refine bal ?_ _))).mono ?_; rintro r w1 ⟨rfl, hb1⟩)
  go_ret2
  exact ⟨rfl, hb1⟩
end Go.Proofs.YthanoilbcdhbkaaGreatDoor
