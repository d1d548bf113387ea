/-
  Same; names of variables, of both sides.
-/
import Derived.Test.YthanoilbcdhbkaaGreatDoorQEG
import Derived.Test.YthanoilbcdhbkaaGreatDoorQD
import Derived.Test.YthanoilbcdhbkaaGreatDoorQTY
namespace Go.Proofs.YthanoilbcdhbkaaGreatDoor
open Go Go.RowKit Go.Lib Go.Shelf WM TM EM

def nmOk (x : List UInt8) : Bool := (decide (1 ≤ x.length) && decide (x.length ≤ 16)) && (isL (hd x) && x.all isW)
def varOk (x : List UInt8) : Bool := nmOk x && !wrd x
theorem tw_self (p : UInt8 → Bool) : ∀ l : List UInt8, l.takeWhile p = l ↔ l.all p = true := by
 intro l
 induction l with
 | nil => simp
 | cons c l ih =>
  rw [List.takeWhile_cons]
  cases hc : p c with
  | true => simp [hc, ih]
  | false => simp [hc]
theorem isL_beg (c : UInt8) (h : isL c = true) : beg c := by
 have := u8_all (fun c => !isL c || decide (c ≠ 10 ∧ ¬ (c = 32 ∨ c = 9) ∧ c ≠ 35)) (by decide +kernel) c
 rw [h] at this
 show c ≠ 10 ∧ ¬ (c = 32 ∨ c = 9) ∧ c ≠ 35
 exact of_decide_eq_true (show decide (c ≠ 10 ∧ ¬ (c = 32 ∨ c = 9) ∧ c ≠ 35) = true from this)
theorem var_aln (x : List UInt8) : varOk x = aln (1, 0, x) := by
 rw [Bool.eq_iff_iff]
 constructor
 ·intro h
  unfold varOk nmOk at h
  simp only [Bool.and_eq_true, decide_eq_true_eq, Bool.not_eq_true'] at h
  obtain ⟨⟨⟨h1, h2⟩, h3, h4⟩, h5⟩ := h
  cases x with
  | nil => exact absurd h1 (by decide)
  | cons c y =>
   have hh : hd (c :: y) = c := rfl
   rw [hh] at h3
   have ht : tx (c :: y) = c :: y := by
    unfold tx
    rw [hh, if_pos h3]
    exact (tw_self _ _).2 h4
   have he : err (c :: y) = 0 := by
    unfold err
    rw [hh, if_pos h3, ht]
    unfold nmerr
    rw [h5, if_neg (by decide), if_neg (by omega)]
   have hk : knd (c :: y) = 1 := by
    unfold knd
    rw [hh, if_pos h3, ht, h5, if_neg (by decide)]
   have := aln_tok c y 0 (isL_beg c h3) he
   rwa [hk, ht] at this
 ·intro h
  obtain ⟨c, y, hx, hb, he, ht, hk⟩ := aln_parts h
  simp only at hx hk
  subst hx
  have hh : hd (c :: y) = c := rfl
  unfold knd at hk
  rw [hh] at hk
  by_cases hL : isL c = true
  ·rw [if_pos hL, ht] at hk
   by_cases hw : wrd (c :: y) = true
   ·rw [if_pos hw] at hk; exact absurd hk (by decide)
   ·unfold tx at ht
    rw [hh, if_pos hL] at ht
    unfold err at he
    rw [hh, if_pos hL] at he
    have ht2 : tx (c :: y) = c :: y := by unfold tx; rw [hh, if_pos hL]; exact ht
    rw [ht2] at he
    unfold nmerr at he
    rw [if_neg hw] at he
    have hlen : (c :: y).length ≤ 16 := by
     by_cases h16 : 16 < (c :: y).length
     ·rw [if_pos h16] at he; exact absurd he (by decide)
     ·omega
    have hw' : wrd (c :: y) = false := by simpa using hw
    unfold varOk nmOk
    rw [hw', decide_eq_true hlen, decide_eq_true (show 1 ≤ (c :: y).length by simp), hh, hL, (tw_self _ _).1 ht]
    rfl
  ·rw [if_neg hL] at hk
   exfalso
   revert hk
   split
   ·split <;> decide
   ·decide
theorem aln_one {x : List UInt8} (hx : x.length ≤ 2048) {u : Tok} (h : (TZ x).1 = [u]) : aln (1, 0, x) = (decide (u.1 = 1) && decide (u.2.2 = x)) := by
 rw [TZ_small hx] at h
 unfold aln
 rw [h]
 simp only [List.map_cons, List.map_nil, TM.pr, List.cons.injEq, and_true, Prod.mk.injEq]
 rw [Bool.decide_and]
theorem aln_other {x : List UInt8} (hx : x.length ≤ 2048) (h : (TZ x).1.length ≠ 1) : aln (1, 0, x) = false := by
 rw [TZ_small hx] at h
 unfold aln
 rw [decide_eq_false_iff_not]
 intro e
 have := congrArg List.length e
 rw [List.length_map] at this
 exact h this

set_option maxRecDepth 100000 in
set_option maxHeartbeats 4000000 in
theorem mvariable (X : ByteArray) (w : World) (hM : Mk w) (hE : Er w) :
  Calls Tryz.prog 77 #[.string X] w fun r w' => r = .returned (.bool (varOk (byt X))) ∧ Below w.heap.size w w' := by
 have T0 := Lib.hid (fun W (hW : Below w.heap.size w W) => mtokenize X W (hM.keep hW) (hE.keep hW))
 have hxl := byt_len X
 obtain ⟨R, hR⟩ : ∃ R, varOk (byt X) = R := ⟨_, rfl⟩
 obtain ⟨q, hq⟩ : ∃ q, TZ (byt X) = q := ⟨_, rfl⟩
 obtain ⟨l, ln, er⟩ := q
 rw [hq] at T0
 unfold GotK at T0
 rw [hR]
 by_cases h1 : l.length = 1
 ·have hsm : (byt X).length ≤ 2048 := by
   rcases Nat.lt_or_ge 2048 (byt X).length with h | h
   ·have : TZ (byt X) = ([], 0, 5) := by unfold TZ; rw [if_pos h]
    rw [hq] at this; injection this with h2; subst h2; exact absurd h1 (by decide)
   ·exact h
  obtain ⟨u, rfl⟩ : ∃ u, l = [u] := by
   cases l with
   | nil => exact absurd h1 (by decide)
   | cons u t =>
    cases t with
    | nil => exact ⟨u, rfl⟩
    | cons _ _ => simp at h1
  have hRu : R = (decide (u.1 = 1) && decide (u.2.2 = byt X)) := by
   rw [← hR, var_aln]
   exact aln_one hsm (by rw [hq])
  obtain ⟨uk, ul, ux⟩ := u
  simp only at hRu
  have T1 : Hid (∀ W, Below w.heap.size w W → Calls Tryz.prog 98 #[.string X] W fun e w' => ∃ b off c, e = .returned (.tuple #[.slice (some ⟨b, off, none⟩) 1 c, .int .i64 ln, .int .i64 er]) ∧ w'.cell? ⟨b, off, none⟩ = some (.int .i64 uk) ∧ w'.cell? ⟨b, off + 2, none⟩ = some (.string (str ux)) ∧ Below W.heap.size W w') := Lib.hid fun W hW => (T0.out W hW).mono fun e w' ⟨ao, c, he, ht, hb⟩ => by
    obtain ⟨b, off, e1, _, k0, _, k2⟩ := ht 0 (by simp)
    subst e1
    exact ⟨b, off, c, he, by simpa using k0, by simpa using k2, hb⟩
  clear T0 hM hE hR hq h1 hsm hxl
  by_cases hk : uk = 1
  ·by_cases hx : ux = byt X
   ·have : R = true := by rw [hRu, decide_eq_true hk, decide_eq_true hx]; rfl
    subst this
    subst hk
    rw [hx, str_byt] at T1
    clear hRu hx
    go_enter Tryz.func77, Tryz.ntmps77
    go_wp2_with (go_at_call 98; refine (T1.out _ (by repeat (first | exact bref _ | refine bdr ?_ | refine bal ?_ _))).mono ?_; rintro r w1 ⟨b, off, c, rfl, k0, k2, hb1⟩)
    go_ret
    exact ⟨rfl, hb1⟩
   ·have : R = false := by rw [hRu, decide_eq_false hx]; simp
    subst this
    subst hk
    have hne : ((str ux).toList == X.toList) = false := by
     have := str_ne hx
     rwa [str_byt] at this
    clear hRu hx
    go_enter Tryz.func77, Tryz.ntmps77
    go_wp2_with (go_at_call 98; refine (T1.out _ (by repeat (first | exact bref _ | refine bdr ?_ | refine bal ?_ _))).mono ?_; rintro r w1 ⟨b, off, c, rfl, k0, k2, hb1⟩)
    go_ret
    exact ⟨rfl, hb1⟩
  ·have : R = false := by rw [hRu, decide_eq_false hk]; rfl
   subst this
   clear hRu
   go_enter Tryz.func77, Tryz.ntmps77
   go_wp2_with (go_at_call 98; refine (T1.out _ (by repeat (first | exact bref _ | refine bdr ?_ | refine bal ?_ _))).mono ?_; rintro r w1 ⟨b, off, c, rfl, k0, k2, hb1⟩)
   go_ret
   exact ⟨rfl, hb1⟩
 ·have hRf : R = false := by
   rw [← hR]
   rcases Nat.lt_or_ge 2048 (byt X).length with h | h
   ·unfold varOk nmOk; rw [decide_eq_false (show ¬ (byt X).length ≤ 16 by omega)]; simp
   ·rw [var_aln]; exact aln_other h (by rw [hq]; exact h1)
  subst hRf
  obtain ⟨N, hN⟩ : ∃ N, l.length = N := ⟨_, rfl⟩
  simp only [hN] at T0
  rw [hN] at h1
  have T1 : Hid (∀ W, Below w.heap.size w W → Calls Tryz.prog 98 #[.string X] W fun e w' => ∃ ao c, e = .returned (.tuple #[.slice ao N c, .int .i64 ln, .int .i64 er]) ∧ Below W.heap.size W w') := Lib.hid fun W hW => (T0.out W hW).mono fun e w' ⟨ao, c, he, _, hb⟩ => ⟨ao, c, he, hb⟩
  have hz : ¬ (N : Int) = 1 := by omega
  clear T0 hM hE hR hq hxl hN h1
  go_enter Tryz.func77, Tryz.ntmps77
  go_wp2_with (go_at_call 98; refine (T1.out _ (by repeat (first | exact bref _ | refine bdr ?_ | refine bal ?_ _))).mono ?_; rintro r w1 ⟨ao, c, rfl, hb1⟩)
  go_ret
  exact ⟨rfl, hb1⟩
end Go.Proofs.YthanoilbcdhbkaaGreatDoor
