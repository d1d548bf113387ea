/-
  left (the bound of nodes and depth), Same and the library's EqualFunc.
-/
import Derived.Test.YthanoilbcdhbkaaGreatDoorQEB
import Derived.Shelf.Abstract
namespace Go.Proofs.YthanoilbcdhbkaaGreatDoor
open Go Go.RowKit Go.Lib Go.Shelf WM TM EM

def lft (e : Ex) (d n : Nat) : Int := if dep e ≤ d ∧ siz e ≤ n then ((n - siz e : Nat) : Int) else -1
def lfts (l : List Ex) (d n : Nat) : Int := if deps l ≤ d ∧ sizs l ≤ n then ((n - sizs l : Nat) : Int) else -1
theorem lft_zero (e : Ex) (d n : Nat) (h : d = 0 ∨ n = 0) : lft e d n = -1 := by
 unfold lft
 have := siz_pos e
 have := dep_eq e
 rw [if_neg (by omega)]
theorem lft_succ (e : Ex) (d n : Nat) : lft e (d + 1) (n + 1) = lfts e.args d n := by
 unfold lft lfts
 rw [dep_eq, siz_eq]
 by_cases h : deps e.args ≤ d ∧ sizs e.args ≤ n
 ·rw [if_pos h, if_pos ⟨by omega, by omega⟩]; congr 1; omega
 ·rw [if_neg h, if_neg (by omega)]
theorem lfts_take (l : List Ex) (k d n : Nat) (h : k < l.length) (m : Nat) (hm : lfts (l.take k) d n = m) : lfts (l.take (k + 1)) d n = lft (l.getD k E0) d m := by
 unfold lfts at hm
 unfold lfts lft
 rw [deps_take l k h, sizs_take l k h]
 by_cases h1 : deps (l.take k) ≤ d ∧ sizs (l.take k) ≤ n
 ·rw [if_pos h1] at hm
  by_cases h2 : dep (l.getD k E0) ≤ d ∧ siz (l.getD k E0) ≤ m
  ·rw [if_pos h2, if_pos (by omega)]; omega
  ·rw [if_neg h2, if_neg (by omega)]
 ·rw [if_neg h1] at hm
  omega
theorem lfts_neg (l : List Ex) (k d n : Nat) (h : lfts (l.take k) d n < 0) : lfts l d n = -1 := by
 unfold lfts at *
 by_cases h1 : deps (l.take k) ≤ d ∧ sizs (l.take k) ≤ n
 ·rw [if_pos h1] at h; omega
 ·rw [if_neg (fun h2 => h1 ⟨?_, ?_⟩)]
  ·have : ∀ (m : List Ex) (j : Nat), deps (m.take j) ≤ deps m := by
    intro m
    induction m with
    | nil => intro j; simp
    | cons x m ih =>
     intro j
     cases j with
     | zero => simp [deps]
     | succ j => simp only [List.take_succ_cons, deps]; have := ih j; omega
   have := this l k; omega
  ·have := sizs_take_le l k; omega
theorem lft_cases (e : Ex) (d n : Nat) : lft e d n = -1 ∨ ∃ m : Nat, lft e d n = m ∧ m ≤ n := by
 unfold lft
 split
 ·exact Or.inr ⟨_, rfl, by omega⟩
 ·exact Or.inl rfl

set_option maxRecDepth 100000 in
set_option maxHeartbeats 2000000 in
theorem mleft : ∀ (e : Ex) (d n : Nat) (so : Option Addr) (cap : Nat) (w : World), d ≤ 1000 → n ≤ 100000 → ExprsAt so e.args w →
  Calls Tryz.prog 74 #[.agg #[.int .i64 e.op, .int .i64 e.n, .string (str e.s), .slice so e.args.length cap], .int .i64 d, .int .i64 n] w fun r w' => r = .returned (.int .i64 (lft e d n)) ∧ Below w.heap.size w w' := by
 refine ex_ind _ fun e ih d n so cap w hd hn h => ?_
 obtain ⟨R, hR⟩ : ∃ R, lft e d n = R := ⟨_, rfl⟩
 rw [hR]
 by_cases h0 : d = 0
 ·have : R = -1 := by rw [← hR, lft_zero e d n (Or.inl h0)]
  subst this
  subst h0
  clear hR ih h
  go_enter Tryz.func74, Tryz.ntmps74
  go_wp2_with fail
  go_ret
  exact ⟨rfl, by repeat (first | exact bref _ | refine bdr ?_ | refine bal ?_ _)⟩
 by_cases h1 : n = 0
 ·have : R = -1 := by rw [← hR, lft_zero e d n (Or.inr h1)]
  subst this
  subst h1
  have hdz : ¬ (d : Int) = 0 := by omega
  clear hR ih h
  go_enter Tryz.func74, Tryz.ntmps74
  go_wp2_with fail
  go_ret
  exact ⟨rfl, by repeat (first | exact bref _ | refine bdr ?_ | refine bal ?_ _)⟩
 obtain ⟨d, rfl⟩ : ∃ q, d = q + 1 := ⟨d - 1, by omega⟩
 obtain ⟨n, rfl⟩ : ∃ q, n = q + 1 := ⟨n - 1, by omega⟩
 have HT := Lib.hid h
 obtain ⟨l, hl⟩ : ∃ l, e.args = l := ⟨_, rfl⟩
 obtain ⟨N, hN⟩ : ∃ n, l.length = n := ⟨_, rfl⟩
 have HR : Hid (R = lfts l d n) := Lib.hid (by rw [← hR, lft_succ, hl])
 rw [hl] at ih
 rw [hl] at HT h ⊢
 have IH := Lib.hid ih
 have HN := Lib.hid hN
 rw [hN]
 have hz1 : ((d + 1 : Nat) : Int) - 1 = (d : Int) := by omega
 have hz2 : ((n + 1 : Nat) : Int) - 1 = (n : Int) := by omega
 clear h ih hN hl hR h0 h1
 obtain ⟨dz, hdz⟩ : ∃ z : Int, ((d + 1 : Nat) : Int) = z := ⟨_, rfl⟩
 obtain ⟨nz, hnz⟩ : ∃ z : Int, ((n + 1 : Nat) : Int) = z := ⟨_, rfl⟩
 rw [hdz, hnz]
 have hd0 : ¬ dz = 0 := by omega
 have hn0 : ¬ nz = 0 := by omega
 have hd1 : 1 ≤ dz ∧ dz ≤ 1000 := by omega
 have hn1 : 1 ≤ nz ∧ nz ≤ 100000 := by omega
 have hd2 : (dz == 0) = false := by rw [beq_eq_false_iff_ne]; exact hd0
 have hn2 : (nz == 0) = false := by rw [beq_eq_false_iff_ne]; exact hn0
 have HDZ := Lib.hid hdz
 have HNZ := Lib.hid hnz
 clear hdz hnz hz1 hz2
 go_enter Tryz.func74, Tryz.ntmps74
 go_wp2_with fail
 go_loopw [2, 20] (fun x i wr => ∃ (k m : Nat), k ≤ N ∧ x = .int .i64 m ∧ i = .int .i64 k ∧ m ≤ n ∧ lfts (l.take k) d n = m ∧ Below w.heap.size w wr) (fun _ i _ => N - (RowKit.intOf i).toNat)
 case atStart => exact ⟨0, n, by omega, by have := HNZ.out; congr 1; omega, rfl, by omega, by simp [lfts, deps, sizs_nil], by (repeat (first | exact bref _ | refine bdr ?_ | refine bal ?_ _))⟩
 case round =>
  obtain ⟨k, m, hk, rfl, rfl, hmn, hq, hB⟩ := hrel
  have HQ := Lib.hid hq
  have HB := Lib.hid hB
  have hnn : n ≤ 100000 := by have := HNZ.out; omega
  clear hq hB
  have hkn : k ≤ n := by
   have h1 := HQ.out
   have h2 := sizs_le l k (by rw [HN.out]; exact hk)
   unfold lfts at h1
   split at h1 <;> omega
  by_cases hlt : k < N
  ·have hkz : (k : Int) < (N : Int) := by omega
   have g1 : k < l.length := by rw [HN.out]; exact hlt
   obtain ⟨b, off, so2, cap2, rfl, hb, c0, c1, c2, c3, hs, _⟩ := (HT.out.keep HB.out).at k g1
   have C0 := Lib.hid (fun W (hW : Below wr.heap.size wr W) => IH.out (l.getD k E0) (getD_mem'' _ _ _ g1) d m so2 cap2 W (by omega) (by omega) (hs.keep hW))
   have ht := lfts_take l k d n g1 m HQ.out
   obtain ⟨x, hx⟩ : ∃ x, l.getD k E0 = x := ⟨_, rfl⟩
   rw [hx] at c0 c1 c2 c3 ht
   rw [hx] at C0
   have hdd : ((d : Nat) : Int) = dz - 1 := by have := HDZ.out; omega
   rw [hdd] at C0
   have hcs := lft_cases x d m
   obtain ⟨v, hv⟩ : ∃ v, lft x d m = v := ⟨_, rfl⟩
   rw [hv] at C0 ht hcs
   have HT1 := Lib.hid ht
   clear hs hx ht hv hdd
   rcases hcs with rfl | ⟨m2, rfl, hm2⟩
   ·have HRn : Hid (R = -1) := Lib.hid (by rw [HR.out]; exact lfts_neg l (k + 1) d n (by rw [HT1.out]; decide))
    go_wp2_with (go_at_call 74; refine (C0.out _ (by repeat (first | exact bref _ | refine bdr ?_ | refine bal ?_ _))).mono ?_; rintro r w1 ⟨rfl, hb1⟩)
    go_ret
    exact ⟨by rw [HRn.out]; rfl, btr HB.out (btr (by repeat (first | exact bref _ | refine bdr ?_ | refine bal ?_ _)) hb1)⟩
   ·go_wp2_with (go_at_call 74; refine (C0.out _ (by repeat (first | exact bref _ | refine bdr ?_ | refine bal ?_ _))).mono ?_; rintro r w1 ⟨rfl, hb1⟩)
    go_roundw
    case rel => exact ⟨k + 1, m2, by omega, rfl, by go_num, by omega, HT1.out, btr HB.out (btr (by repeat (first | exact bref _ | refine bdr ?_ | refine bal ?_ _)) hb1)⟩
    case measure => simp [RowKit.intOf]; omega
  ·have he : k = N := by omega
   subst he
   have HRm : Hid (R = m) := Lib.hid (by have h1 := HQ.out; have h2 := HN.out; rw [List.take_of_length_le (by omega)] at h1; rw [HR.out, h1])
   go_wp2_with fail
   go_ret
   exact ⟨by rw [HRm.out]; rfl, HB.out⟩

end Go.Proofs.YthanoilbcdhbkaaGreatDoor
