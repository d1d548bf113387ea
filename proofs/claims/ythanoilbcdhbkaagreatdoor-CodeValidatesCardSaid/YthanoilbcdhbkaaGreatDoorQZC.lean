/-
  Types of operators: contracts of both sides.
-/
import Derived.Test.YthanoilbcdhbkaaGreatDoorQZB
namespace Go.Proofs.YthanoilbcdhbkaaGreatDoor
open Go Go.RowKit Go.Lib WM TM EM YM

def IntsAt (ao : Option Addr) (l : List Int) (w : World) : Prop := ∀ i, i < l.length → ∃ b off, ao = some ⟨b, off, none⟩ ∧ b < w.heap.size ∧ w.cell? ⟨b, off + i, none⟩ = some (.int .i64 (l.getD i 0))
theorem IntsAt.keep {ao : Option Addr} {l : List Int} {w w' : World} (h : IntsAt ao l w) (hb : Below w.heap.size w w') : IntsAt ao l w' := by
 intro i hi
 obtain ⟨b, off, e, hbw, c1⟩ := h i hi
 exact ⟨b, off, e, by have := hb.size; omega, keepc hb c1⟩
set_option maxRecDepth 100000 in
theorem mexists (t : Int) (w : World) : Calls Tryz.prog 49 #[.int .i64 t] w fun r w' => r = .returned (.bool (good t)) ∧ Below w.heap.size w w' := by
 by_cases h1 : 1 ≤ t
 ·by_cases h2 : t ≤ 5
  ·have hg : good t = true := by rw [good_iff]; exact ⟨h1, h2⟩
   rw [hg]
   clear hg
   go_enter Tryz.func49, Tryz.ntmps49
   go_wp2_with fail
   go_ret
   exact ⟨by simp, by repeat (first | exact bref _ | refine bdr ?_ | refine bal ?_ _)⟩
  ·have hg : good t = false := by cases h : good t with
    | false => rfl
    | true => exact absurd (good_iff.1 h).2 h2
   rw [hg]
   clear hg
   go_enter Tryz.func49, Tryz.ntmps49
   go_wp2_with fail
   go_ret
   exact ⟨by simp, by repeat (first | exact bref _ | refine bdr ?_ | refine bal ?_ _)⟩
 ·have hg : good t = false := by cases h : good t with
   | false => rfl
   | true => exact absurd (good_iff.1 h).1 h1
  rw [hg]
  clear hg
  go_enter Tryz.func49, Tryz.ntmps49
  go_wp2_with fail
  go_ret
  exact ⟨by simp, by repeat (first | exact bref _ | refine bdr ?_ | refine bal ?_ _)⟩

set_option maxRecDepth 100000 in
theorem rgood (t : Int) (w : World) : Calls Tryz.prog 46 #[.int .i64 t] w fun r w' => r = .returned (.bool (good t)) ∧ Below w.heap.size w w' := by
 by_cases h1 : 1 ≤ t
 ·by_cases h2 : t ≤ 5
  ·have hg : good t = true := by rw [good_iff]; exact ⟨h1, h2⟩
   rw [hg]
   clear hg
   go_enter Tryz.func46, Tryz.ntmps46
   go_wp2_with fail
   go_ret
   exact ⟨by simp, by repeat (first | exact bref _ | refine bdr ?_ | refine bal ?_ _)⟩
  ·have hg : good t = false := by cases h : good t with
    | false => rfl
    | true => exact absurd (good_iff.1 h).2 h2
   rw [hg]
   clear hg
   go_enter Tryz.func46, Tryz.ntmps46
   go_wp2_with fail
   go_ret
   exact ⟨by simp, by repeat (first | exact bref _ | refine bdr ?_ | refine bal ?_ _)⟩
 ·have hg : good t = false := by cases h : good t with
   | false => rfl
   | true => exact absurd (good_iff.1 h).1 h1
  rw [hg]
  clear hg
  go_enter Tryz.func46, Tryz.ntmps46
  go_wp2_with fail
  go_ret
  exact ⟨by simp, by repeat (first | exact bref _ | refine bdr ?_ | refine bal ?_ _)⟩

set_option maxRecDepth 100000 in
theorem rscal (t : Int) (w : World) : Calls Tryz.prog 103 #[.int .i64 t] w fun r w' => r = .returned (.bool (scal t)) ∧ Below w.heap.size w w' := by
 by_cases h1 : t = 1
 ·subst h1
  go_enter Tryz.func103, Tryz.ntmps103
  go_wp2_with fail
  go_ret
  exact ⟨rfl, by repeat (first | exact bref _ | refine bdr ?_ | refine bal ?_ _)⟩
 ·have e1 : (t == 1) = false := by rw [beq_eq_false_iff_ne]; exact h1
  by_cases h2 : t = 2
  ·subst h2
   go_enter Tryz.func103, Tryz.ntmps103
   go_wp2_with fail
   go_ret
   exact ⟨rfl, by repeat (first | exact bref _ | refine bdr ?_ | refine bal ?_ _)⟩
  ·have e2 : (t == 2) = false := by rw [beq_eq_false_iff_ne]; exact h2
   by_cases h3 : t = 3
   ·subst h3
    go_enter Tryz.func103, Tryz.ntmps103
    go_wp2_with fail
    go_ret
    exact ⟨rfl, by repeat (first | exact bref _ | refine bdr ?_ | refine bal ?_ _)⟩
   ·have e3 : (t == 3) = false := by rw [beq_eq_false_iff_ne]; exact h3
    have hg : scal t = false := by cases h : scal t with
     | false => rfl
     | true => have := scal_iff.1 h; omega
    rw [hg]
    clear hg
    go_enter Tryz.func103, Tryz.ntmps103
    go_wp2_with fail
    go_ret
    exact ⟨rfl, by repeat (first | exact bref _ | refine bdr ?_ | refine bal ?_ _)⟩

set_option maxRecDepth 100000 in
set_option maxHeartbeats 2000000 in
theorem rprod (a b : Int) (w : World) : Calls Tryz.prog 113 #[.int .i64 a, .int .i64 b] w fun r w' => ∃ v, r = .returned (.tuple #[.int .i64 v, .bool (prodO a b).isSome]) ∧ (∀ u, prodO a b = some u → v = u) ∧ Below w.heap.size w w' := by
 cases hsa : scal a with
 | false =>
  have C0 := Lib.hid (fun W => rscal a W)
  rw [show scal a = false from hsa] at C0
  have hv : prodO a b = none := by simp [prodO, hsa]
  rw [hv]
  clear hv
  go_enter Tryz.func113, Tryz.ntmps113
  go_wp2_with (first | (go_at_call 103; with_reducible refine Calls.mono (C0.out _) ?_; rintro r0 w0 ⟨rfl, hb0⟩))
  go_ret2
  exact ⟨_, rfl, fun u hu => (by cases hu), hb0⟩
 | true =>
  have C0 := Lib.hid (fun W => rscal a W)
  rw [show scal a = true from hsa] at C0
  cases hsb : scal b with
  | false =>
   have C1 := Lib.hid (fun W => rscal b W)
   rw [show scal b = false from hsb] at C1
   have hv : prodO a b = none := by simp [prodO, hsa, hsb]
   rw [hv]
   clear hv
   go_enter Tryz.func113, Tryz.ntmps113
   go_wp2_with (first | (go_at_call 103; with_reducible refine Calls.mono (C0.out _) ?_; rintro r0 w0 ⟨rfl, hb0⟩) | (go_at_call 103; with_reducible refine Calls.mono (C1.out _) ?_; rintro r1 w1 ⟨rfl, hb1⟩))
   go_ret2
   exact ⟨_, rfl, fun u hu => (by cases hu), btr hb0 hb1⟩
  | true =>
   have C1 := Lib.hid (fun W => rscal b W)
   rw [show scal b = true from hsb] at C1
   by_cases ha : a = 1
   ·subst ha
    have hv : prodO 1 b = some b := by simp [prodO, hsa, hsb]
    rw [hv]
    clear hv
    go_enter Tryz.func113, Tryz.ntmps113
    go_wp2_with (first | (go_at_call 103; with_reducible refine Calls.mono (C0.out _) ?_; rintro r0 w0 ⟨rfl, hb0⟩) | (go_at_call 103; with_reducible refine Calls.mono (C1.out _) ?_; rintro r1 w1 ⟨rfl, hb1⟩))
    go_ret2
    exact ⟨_, rfl, fun u hu => (by cases hu; rfl), btr hb0 hb1⟩
   ·
    have eha : (a == 1) = false := by rw [beq_eq_false_iff_ne]; exact ha
    by_cases hb : b = 1
    ·subst hb
     have hv : prodO a 1 = some a := by simp [prodO, hsa, hsb, ha]
     rw [hv]
     clear hv
     go_enter Tryz.func113, Tryz.ntmps113
     go_wp2_with (first | (go_at_call 103; with_reducible refine Calls.mono (C0.out _) ?_; rintro r0 w0 ⟨rfl, hb0⟩) | (go_at_call 103; with_reducible refine Calls.mono (C1.out _) ?_; rintro r1 w1 ⟨rfl, hb1⟩))
     go_ret2
     exact ⟨_, rfl, fun u hu => (by cases hu; rfl), btr hb0 hb1⟩
    ·
     have ehb : (b == 1) = false := by rw [beq_eq_false_iff_ne]; exact hb
     by_cases hab : a = b
     ·subst hab
      have hv : prodO a a = none := by simp [prodO, iff', hsa, ha]
      rw [hv]
      clear hv
      go_enter Tryz.func113, Tryz.ntmps113
      go_wp2_with (first | (go_at_call 103; with_reducible refine Calls.mono (C0.out _) ?_; rintro r0 w0 ⟨rfl, hb0⟩) | (go_at_call 103; with_reducible refine Calls.mono (C0.out _) ?_; rintro r1 w1 ⟨rfl, hb1⟩))
      go_ret2
      exact ⟨_, rfl, fun u hu => (by cases hu), btr (by assumption) hb0⟩
     ·
      have ehab : (a == b) = false := by rw [beq_eq_false_iff_ne]; exact hab
      have nhab : (a != b) = true := by rw [bne_iff_ne]; exact hab
      have hv : prodO a b = some 2 := by simp [prodO, iff', hsa, hsb, ha, hb, hab]
      rw [hv]
      clear hv
      go_enter Tryz.func113, Tryz.ntmps113
      go_wp2_with (first | (go_at_call 103; with_reducible refine Calls.mono (C0.out _) ?_; rintro r0 w0 ⟨rfl, hb0⟩) | (go_at_call 103; with_reducible refine Calls.mono (C1.out _) ?_; rintro r1 w1 ⟨rfl, hb1⟩))
      go_ret2
      exact ⟨_, rfl, fun u hu => (by cases hu; rfl), btr hb0 hb1⟩

set_option maxRecDepth 100000 in
set_option maxHeartbeats 2000000 in
theorem rtwo5 (a b : Int) (w : World) : Calls Tryz.prog 104 #[.int .i64 5, .int .i64 a, .int .i64 b] w fun r w' => ∃ v, r = .returned (.tuple #[.int .i64 v, .bool (twoO 5 a b).isSome]) ∧ (∀ u, twoO 5 a b = some u → v = u) ∧ Below w.heap.size w w' := by
 by_cases h4 : a = 4
 ·subst h4
  by_cases h1 : b = 1
  ·subst h1
   have hv : twoO 5 4 1 = some 4 := by simp [twoO, iff']
   rw [hv]
   clear hv
   go_enter Tryz.func104, Tryz.ntmps104
   go_wp2_with fail
   go_ret2
   exact ⟨_, rfl, fun u hu => (by cases hu; rfl), bref _⟩
  ·
   have eh1 : (b == 1) = false := by rw [beq_eq_false_iff_ne]; exact h1
   have hv : twoO 5 4 b = none := by simp [twoO, iff', h1]
   rw [hv]
   clear hv
   go_enter Tryz.func104, Tryz.ntmps104
   go_wp2_with fail
   go_ret2
   exact ⟨_, rfl, fun u hu => (by cases hu), bref _⟩
 ·
  have eh4 : (a == 4) = false := by rw [beq_eq_false_iff_ne]; exact h4
  by_cases hab : a = b
  ·subst hab
   cases hsa : scal a with
   | true =>
    have C0 := Lib.hid (fun W => rscal a W)
    rw [show scal a = true from hsa] at C0
    have hv : twoO 5 a a = some a := by simp [twoO, iff', h4, hsa]
    rw [hv]
    clear hv
    go_enter Tryz.func104, Tryz.ntmps104
    go_wp2_with (first | (go_at_call 103; with_reducible refine Calls.mono (C0.out _) ?_; rintro r0 w0 ⟨rfl, hb0⟩))
    go_ret2
    exact ⟨_, rfl, fun u hu => (by cases hu; rfl), hb0⟩
   | false =>
    have C0 := Lib.hid (fun W => rscal a W)
    rw [show scal a = false from hsa] at C0
    have hv : twoO 5 a a = none := by simp [twoO, iff', h4, hsa]
    rw [hv]
    clear hv
    go_enter Tryz.func104, Tryz.ntmps104
    go_wp2_with (first | (go_at_call 103; with_reducible refine Calls.mono (C0.out _) ?_; rintro r0 w0 ⟨rfl, hb0⟩))
    go_ret2
    exact ⟨_, rfl, fun u hu => (by cases hu), hb0⟩
  ·
   have ehab : (a == b) = false := by rw [beq_eq_false_iff_ne]; exact hab
   have nhab : (a != b) = true := by rw [bne_iff_ne]; exact hab
   have hv : twoO 5 a b = none := by simp [twoO, iff', h4, hab]
   rw [hv]
   clear hv
   go_enter Tryz.func104, Tryz.ntmps104
   go_wp2_with fail
   go_ret2
   exact ⟨_, rfl, fun u hu => (by cases hu), bref _⟩

set_option maxRecDepth 100000 in
set_option maxHeartbeats 2000000 in
theorem rtwo6 (a b : Int) (w : World) : Calls Tryz.prog 104 #[.int .i64 6, .int .i64 a, .int .i64 b] w fun r w' => ∃ v, r = .returned (.tuple #[.int .i64 v, .bool (twoO 6 a b).isSome]) ∧ (∀ u, twoO 6 a b = some u → v = u) ∧ Below w.heap.size w w' := by
 by_cases h4 : a = 4
 ·subst h4
  by_cases h1 : b = 1
  ·subst h1
   have hv : twoO 6 4 1 = some 4 := by simp [twoO, iff']
   rw [hv]
   clear hv
   go_enter Tryz.func104, Tryz.ntmps104
   go_wp2_with fail
   go_ret2
   exact ⟨_, rfl, fun u hu => (by cases hu; rfl), bref _⟩
  ·
   have eh1 : (b == 1) = false := by rw [beq_eq_false_iff_ne]; exact h1
   by_cases h4 : b = 4
   ·subst h4
    have hv : twoO 6 4 4 = some 1 := by simp [twoO]
    rw [hv]
    clear hv
    go_enter Tryz.func104, Tryz.ntmps104
    go_wp2_with fail
    go_ret2
    exact ⟨_, rfl, fun u hu => (by cases hu; rfl), bref _⟩
   ·
    have eh4 : (b == 4) = false := by rw [beq_eq_false_iff_ne]; exact h4
    have hv : twoO 6 4 b = none := by simp [twoO, iff', h1, h4]
    rw [hv]
    clear hv
    go_enter Tryz.func104, Tryz.ntmps104
    go_wp2_with fail
    go_ret2
    exact ⟨_, rfl, fun u hu => (by cases hu), bref _⟩
 ·
  have eh4 : (a == 4) = false := by rw [beq_eq_false_iff_ne]; exact h4
  by_cases hab : a = b
  ·subst hab
   cases hsa : scal a with
   | true =>
    have C0 := Lib.hid (fun W => rscal a W)
    rw [show scal a = true from hsa] at C0
    have hv : twoO 6 a a = some a := by simp [twoO, iff', h4, hsa]
    rw [hv]
    clear hv
    go_enter Tryz.func104, Tryz.ntmps104
    go_wp2_with (first | (go_at_call 103; with_reducible refine Calls.mono (C0.out _) ?_; rintro r0 w0 ⟨rfl, hb0⟩))
    go_ret2
    exact ⟨_, rfl, fun u hu => (by cases hu; rfl), hb0⟩
   | false =>
    have C0 := Lib.hid (fun W => rscal a W)
    rw [show scal a = false from hsa] at C0
    have hv : twoO 6 a a = none := by simp [twoO, iff', h4, hsa]
    rw [hv]
    clear hv
    go_enter Tryz.func104, Tryz.ntmps104
    go_wp2_with (first | (go_at_call 103; with_reducible refine Calls.mono (C0.out _) ?_; rintro r0 w0 ⟨rfl, hb0⟩))
    go_ret2
    exact ⟨_, rfl, fun u hu => (by cases hu), hb0⟩
  ·
   have ehab : (a == b) = false := by rw [beq_eq_false_iff_ne]; exact hab
   have nhab : (a != b) = true := by rw [bne_iff_ne]; exact hab
   have hv : twoO 6 a b = none := by simp [twoO, iff', h4, hab]
   rw [hv]
   clear hv
   go_enter Tryz.func104, Tryz.ntmps104
   go_wp2_with fail
   go_ret2
   exact ⟨_, rfl, fun u hu => (by cases hu), bref _⟩

set_option maxRecDepth 100000 in
set_option maxHeartbeats 2000000 in
theorem rtwo7 (a b : Int) (w : World) : Calls Tryz.prog 104 #[.int .i64 7, .int .i64 a, .int .i64 b] w fun r w' => ∃ v, r = .returned (.tuple #[.int .i64 v, .bool (twoO 7 a b).isSome]) ∧ (∀ u, twoO 7 a b = some u → v = u) ∧ Below w.heap.size w w' := by
 have hv : twoO 7 a b = prodO a b := by simp [twoO]
 rw [hv]
 clear hv
 obtain ⟨R, hR⟩ : ∃ R, prodO a b = R := ⟨_, rfl⟩
 have C0 := Lib.hid (fun W => rprod a b W)
 rw [hR] at C0 ⊢
 have HR := Lib.hid hR
 clear hR
 cases R with
 | none =>
  simp only [Option.isSome] at C0 ⊢
  go_enter Tryz.func104, Tryz.ntmps104
  go_wp2_with (go_at_call 113; refine (C0.out _).mono ?_; rintro r0 w0 ⟨v0, rfl, hv0, hb0⟩; have HV := Lib.hid hv0; clear hv0)
  go_ret2
  exact ⟨_, rfl, HV.out, hb0⟩
 | some x =>
  simp only [Option.isSome] at C0 ⊢
  go_enter Tryz.func104, Tryz.ntmps104
  go_wp2_with (go_at_call 113; refine (C0.out _).mono ?_; rintro r0 w0 ⟨v0, rfl, hv0, hb0⟩; have HV := Lib.hid hv0; clear hv0)
  go_ret2
  exact ⟨_, rfl, HV.out, hb0⟩

set_option maxRecDepth 100000 in
set_option maxHeartbeats 2000000 in
theorem rtwo8 (a b : Int) (w : World) : Calls Tryz.prog 104 #[.int .i64 8, .int .i64 a, .int .i64 b] w fun r w' => ∃ v, r = .returned (.tuple #[.int .i64 v, .bool (twoO 8 a b).isSome]) ∧ (∀ u, twoO 8 a b = some u → v = u) ∧ Below w.heap.size w w' := by
 by_cases h2 : a = 2
 ·subst h2
  by_cases h2 : b = 2
  ·subst h2
   have hv : twoO 8 2 2 = some 1 := by simp [twoO]
   rw [hv]
   clear hv
   go_enter Tryz.func104, Tryz.ntmps104
   go_wp2_with fail
   go_ret2
   exact ⟨_, rfl, fun u hu => (by cases hu; rfl), bref _⟩
  ·
   have eh2 : (b == 2) = false := by rw [beq_eq_false_iff_ne]; exact h2
   have C0 := Lib.hid (fun W => rscal 2 W)
   rw [show scal 2 = true from rfl] at C0
   by_cases h1 : b = 1
   ·subst h1
    have hv : twoO 8 2 1 = some 2 := by simp [twoO, iff', scal]
    rw [hv]
    clear hv
    go_enter Tryz.func104, Tryz.ntmps104
    go_wp2_with (first | (go_at_call 103; with_reducible refine Calls.mono (C0.out _) ?_; rintro r0 w0 ⟨rfl, hb0⟩))
    go_ret2
    exact ⟨_, rfl, fun u hu => (by cases hu; rfl), hb0⟩
   ·
    have eh1 : (b == 1) = false := by rw [beq_eq_false_iff_ne]; exact h1
    have hv : twoO 8 2 b = none := by simp [twoO, iff', h1, h2]
    rw [hv]
    clear hv
    go_enter Tryz.func104, Tryz.ntmps104
    go_wp2_with (first | (go_at_call 103; with_reducible refine Calls.mono (C0.out _) ?_; rintro r0 w0 ⟨rfl, hb0⟩))
    go_ret2
    exact ⟨_, rfl, fun u hu => (by cases hu), hb0⟩
 ·
  have eh2 : (a == 2) = false := by rw [beq_eq_false_iff_ne]; exact h2
  cases hsa : scal a with
  | true =>
   have C0 := Lib.hid (fun W => rscal a W)
   rw [show scal a = true from hsa] at C0
   by_cases h1 : b = 1
   ·subst h1
    have hv : twoO 8 a 1 = some a := by simp [twoO, iff', h2, hsa]
    rw [hv]
    clear hv
    go_enter Tryz.func104, Tryz.ntmps104
    go_wp2_with (first | (go_at_call 103; with_reducible refine Calls.mono (C0.out _) ?_; rintro r0 w0 ⟨rfl, hb0⟩))
    go_ret2
    exact ⟨_, rfl, fun u hu => (by cases hu; rfl), hb0⟩
   ·
    have eh1 : (b == 1) = false := by rw [beq_eq_false_iff_ne]; exact h1
    have hv : twoO 8 a b = none := by simp [twoO, iff', h1, h2, hsa]
    rw [hv]
    clear hv
    go_enter Tryz.func104, Tryz.ntmps104
    go_wp2_with (first | (go_at_call 103; with_reducible refine Calls.mono (C0.out _) ?_; rintro r0 w0 ⟨rfl, hb0⟩))
    go_ret2
    exact ⟨_, rfl, fun u hu => (by cases hu), hb0⟩
  | false =>
   have C0 := Lib.hid (fun W => rscal a W)
   rw [show scal a = false from hsa] at C0
   have hv : twoO 8 a b = none := by simp [twoO, iff', h2, hsa]
   rw [hv]
   clear hv
   go_enter Tryz.func104, Tryz.ntmps104
   go_wp2_with (first | (go_at_call 103; with_reducible refine Calls.mono (C0.out _) ?_; rintro r0 w0 ⟨rfl, hb0⟩))
   go_ret2
   exact ⟨_, rfl, fun u hu => (by cases hu), hb0⟩

set_option maxRecDepth 100000 in
set_option maxHeartbeats 2000000 in
theorem rtwo10 (a b : Int) (w : World) : Calls Tryz.prog 104 #[.int .i64 10, .int .i64 a, .int .i64 b] w fun r w' => ∃ v, r = .returned (.tuple #[.int .i64 v, .bool (twoO 10 a b).isSome]) ∧ (∀ u, twoO 10 a b = some u → v = u) ∧ Below w.heap.size w w' := by
 by_cases hab : a = b
 ·subst hab
  have hv : twoO 10 a a = some 5 := by simp [twoO, iff']
  rw [hv]
  clear hv
  go_enter Tryz.func104, Tryz.ntmps104
  go_wp2_with fail
  go_ret2
  exact ⟨_, rfl, fun u hu => (by cases hu; rfl), bref _⟩
 ·
  have ehab : (a == b) = false := by rw [beq_eq_false_iff_ne]; exact hab
  have nhab : (a != b) = true := by rw [bne_iff_ne]; exact hab
  have hv : twoO 10 a b = none := by simp [twoO, iff', hab]
  rw [hv]
  clear hv
  go_enter Tryz.func104, Tryz.ntmps104
  go_wp2_with fail
  go_ret2
  exact ⟨_, rfl, fun u hu => (by cases hu), bref _⟩

set_option maxRecDepth 100000 in
set_option maxHeartbeats 2000000 in
theorem rtwo11 (a b : Int) (w : World) : Calls Tryz.prog 104 #[.int .i64 11, .int .i64 a, .int .i64 b] w fun r w' => ∃ v, r = .returned (.tuple #[.int .i64 v, .bool (twoO 11 a b).isSome]) ∧ (∀ u, twoO 11 a b = some u → v = u) ∧ Below w.heap.size w w' := by
 by_cases hab : a = b
 ·subst hab
  have hv : twoO 11 a a = some 5 := by simp [twoO, iff']
  rw [hv]
  clear hv
  go_enter Tryz.func104, Tryz.ntmps104
  go_wp2_with fail
  go_ret2
  exact ⟨_, rfl, fun u hu => (by cases hu; rfl), bref _⟩
 ·
  have ehab : (a == b) = false := by rw [beq_eq_false_iff_ne]; exact hab
  have nhab : (a != b) = true := by rw [bne_iff_ne]; exact hab
  have hv : twoO 11 a b = none := by simp [twoO, iff', hab]
  rw [hv]
  clear hv
  go_enter Tryz.func104, Tryz.ntmps104
  go_wp2_with fail
  go_ret2
  exact ⟨_, rfl, fun u hu => (by cases hu), bref _⟩

set_option maxRecDepth 100000 in
set_option maxHeartbeats 2000000 in
theorem rtwo12 (a b : Int) (w : World) : Calls Tryz.prog 104 #[.int .i64 12, .int .i64 a, .int .i64 b] w fun r w' => ∃ v, r = .returned (.tuple #[.int .i64 v, .bool (twoO 12 a b).isSome]) ∧ (∀ u, twoO 12 a b = some u → v = u) ∧ Below w.heap.size w w' := by
 by_cases hab : a = b
 ·subst hab
  by_cases h5 : a = 5
  ·subst h5
   have hv : twoO 12 5 5 = none := by simp [twoO, iff']
   rw [hv]
   clear hv
   go_enter Tryz.func104, Tryz.ntmps104
   go_wp2_with fail
   go_ret2
   exact ⟨_, rfl, fun u hu => (by cases hu), bref _⟩
  ·
   have eh5 : (a == 5) = false := by rw [beq_eq_false_iff_ne]; exact h5
   have nh5 : (a != 5) = true := by rw [bne_iff_ne]; exact h5
   have hv : twoO 12 a a = some 5 := by simp [twoO, iff', h5]
   rw [hv]
   clear hv
   go_enter Tryz.func104, Tryz.ntmps104
   go_wp2_with fail
   go_ret2
   exact ⟨_, rfl, fun u hu => (by cases hu; rfl), bref _⟩
 ·
  have ehab : (a == b) = false := by rw [beq_eq_false_iff_ne]; exact hab
  have nhab : (a != b) = true := by rw [bne_iff_ne]; exact hab
  have hv : twoO 12 a b = none := by simp [twoO, iff', hab]
  rw [hv]
  clear hv
  go_enter Tryz.func104, Tryz.ntmps104
  go_wp2_with fail
  go_ret2
  exact ⟨_, rfl, fun u hu => (by cases hu), bref _⟩

set_option maxRecDepth 100000 in
set_option maxHeartbeats 2000000 in
theorem rtwo13 (a b : Int) (w : World) : Calls Tryz.prog 104 #[.int .i64 13, .int .i64 a, .int .i64 b] w fun r w' => ∃ v, r = .returned (.tuple #[.int .i64 v, .bool (twoO 13 a b).isSome]) ∧ (∀ u, twoO 13 a b = some u → v = u) ∧ Below w.heap.size w w' := by
 by_cases hab : a = b
 ·subst hab
  by_cases h5 : a = 5
  ·subst h5
   have hv : twoO 13 5 5 = none := by simp [twoO, iff']
   rw [hv]
   clear hv
   go_enter Tryz.func104, Tryz.ntmps104
   go_wp2_with fail
   go_ret2
   exact ⟨_, rfl, fun u hu => (by cases hu), bref _⟩
  ·
   have eh5 : (a == 5) = false := by rw [beq_eq_false_iff_ne]; exact h5
   have nh5 : (a != 5) = true := by rw [bne_iff_ne]; exact h5
   have hv : twoO 13 a a = some 5 := by simp [twoO, iff', h5]
   rw [hv]
   clear hv
   go_enter Tryz.func104, Tryz.ntmps104
   go_wp2_with fail
   go_ret2
   exact ⟨_, rfl, fun u hu => (by cases hu; rfl), bref _⟩
 ·
  have ehab : (a == b) = false := by rw [beq_eq_false_iff_ne]; exact hab
  have nhab : (a != b) = true := by rw [bne_iff_ne]; exact hab
  have hv : twoO 13 a b = none := by simp [twoO, iff', hab]
  rw [hv]
  clear hv
  go_enter Tryz.func104, Tryz.ntmps104
  go_wp2_with fail
  go_ret2
  exact ⟨_, rfl, fun u hu => (by cases hu), bref _⟩

set_option maxRecDepth 100000 in
set_option maxHeartbeats 2000000 in
theorem rtwo17 (a b : Int) (w : World) : Calls Tryz.prog 104 #[.int .i64 17, .int .i64 a, .int .i64 b] w fun r w' => ∃ v, r = .returned (.tuple #[.int .i64 v, .bool (twoO 17 a b).isSome]) ∧ (∀ u, twoO 17 a b = some u → v = u) ∧ Below w.heap.size w w' := by
 by_cases hab : a = b
 ·subst hab
  by_cases h5 : a = 5
  ·subst h5
   have hv : twoO 17 5 5 = none := by simp [twoO, iff']
   rw [hv]
   clear hv
   go_enter Tryz.func104, Tryz.ntmps104
   go_wp2_with fail
   go_ret2
   exact ⟨_, rfl, fun u hu => (by cases hu), bref _⟩
  ·
   have eh5 : (a == 5) = false := by rw [beq_eq_false_iff_ne]; exact h5
   have nh5 : (a != 5) = true := by rw [bne_iff_ne]; exact h5
   have hv : twoO 17 a a = some a := by simp [twoO, iff', h5]
   rw [hv]
   clear hv
   go_enter Tryz.func104, Tryz.ntmps104
   go_wp2_with fail
   go_ret2
   exact ⟨_, rfl, fun u hu => (by cases hu; rfl), bref _⟩
 ·
  have ehab : (a == b) = false := by rw [beq_eq_false_iff_ne]; exact hab
  have nhab : (a != b) = true := by rw [bne_iff_ne]; exact hab
  have hv : twoO 17 a b = none := by simp [twoO, iff', hab]
  rw [hv]
  clear hv
  go_enter Tryz.func104, Tryz.ntmps104
  go_wp2_with fail
  go_ret2
  exact ⟨_, rfl, fun u hu => (by cases hu), bref _⟩

set_option maxRecDepth 100000 in
set_option maxHeartbeats 2000000 in
theorem rtwo18 (a b : Int) (w : World) : Calls Tryz.prog 104 #[.int .i64 18, .int .i64 a, .int .i64 b] w fun r w' => ∃ v, r = .returned (.tuple #[.int .i64 v, .bool (twoO 18 a b).isSome]) ∧ (∀ u, twoO 18 a b = some u → v = u) ∧ Below w.heap.size w w' := by
 by_cases hab : a = b
 ·subst hab
  by_cases h5 : a = 5
  ·subst h5
   have hv : twoO 18 5 5 = none := by simp [twoO, iff']
   rw [hv]
   clear hv
   go_enter Tryz.func104, Tryz.ntmps104
   go_wp2_with fail
   go_ret2
   exact ⟨_, rfl, fun u hu => (by cases hu), bref _⟩
  ·
   have eh5 : (a == 5) = false := by rw [beq_eq_false_iff_ne]; exact h5
   have nh5 : (a != 5) = true := by rw [bne_iff_ne]; exact h5
   have hv : twoO 18 a a = some a := by simp [twoO, iff', h5]
   rw [hv]
   clear hv
   go_enter Tryz.func104, Tryz.ntmps104
   go_wp2_with fail
   go_ret2
   exact ⟨_, rfl, fun u hu => (by cases hu; rfl), bref _⟩
 ·
  have ehab : (a == b) = false := by rw [beq_eq_false_iff_ne]; exact hab
  have nhab : (a != b) = true := by rw [bne_iff_ne]; exact hab
  have hv : twoO 18 a b = none := by simp [twoO, iff', hab]
  rw [hv]
  clear hv
  go_enter Tryz.func104, Tryz.ntmps104
  go_wp2_with fail
  go_ret2
  exact ⟨_, rfl, fun u hu => (by cases hu), bref _⟩

set_option maxRecDepth 100000 in
set_option maxHeartbeats 2000000 in
theorem rtwo14 (a b : Int) (w : World) : Calls Tryz.prog 104 #[.int .i64 14, .int .i64 a, .int .i64 b] w fun r w' => ∃ v, r = .returned (.tuple #[.int .i64 v, .bool (twoO 14 a b).isSome]) ∧ (∀ u, twoO 14 a b = some u → v = u) ∧ Below w.heap.size w w' := by
 by_cases h5 : a = 5
 ·subst h5
  by_cases h5 : b = 5
  ·subst h5
   have hv : twoO 14 5 5 = some 5 := by simp [twoO, iff']
   rw [hv]
   clear hv
   go_enter Tryz.func104, Tryz.ntmps104
   go_wp2_with fail
   go_ret2
   exact ⟨_, rfl, fun u hu => (by cases hu; rfl), bref _⟩
  ·
   have eh5 : (b == 5) = false := by rw [beq_eq_false_iff_ne]; exact h5
   have nh5 : (b != 5) = true := by rw [bne_iff_ne]; exact h5
   have hv : twoO 14 5 b = none := by simp [twoO, iff', h5]
   rw [hv]
   clear hv
   go_enter Tryz.func104, Tryz.ntmps104
   go_wp2_with fail
   go_ret2
   exact ⟨_, rfl, fun u hu => (by cases hu), bref _⟩
 ·
  have eh5 : (a == 5) = false := by rw [beq_eq_false_iff_ne]; exact h5
  have nh5 : (a != 5) = true := by rw [bne_iff_ne]; exact h5
  have hv : twoO 14 a b = none := by simp [twoO, iff', h5]
  rw [hv]
  clear hv
  go_enter Tryz.func104, Tryz.ntmps104
  go_wp2_with fail
  go_ret2
  exact ⟨_, rfl, fun u hu => (by cases hu), bref _⟩

set_option maxRecDepth 100000 in
set_option maxHeartbeats 2000000 in
theorem rtwo15 (a b : Int) (w : World) : Calls Tryz.prog 104 #[.int .i64 15, .int .i64 a, .int .i64 b] w fun r w' => ∃ v, r = .returned (.tuple #[.int .i64 v, .bool (twoO 15 a b).isSome]) ∧ (∀ u, twoO 15 a b = some u → v = u) ∧ Below w.heap.size w w' := by
 by_cases h5 : a = 5
 ·subst h5
  by_cases h5 : b = 5
  ·subst h5
   have hv : twoO 15 5 5 = some 5 := by simp [twoO, iff']
   rw [hv]
   clear hv
   go_enter Tryz.func104, Tryz.ntmps104
   go_wp2_with fail
   go_ret2
   exact ⟨_, rfl, fun u hu => (by cases hu; rfl), bref _⟩
  ·
   have eh5 : (b == 5) = false := by rw [beq_eq_false_iff_ne]; exact h5
   have nh5 : (b != 5) = true := by rw [bne_iff_ne]; exact h5
   have hv : twoO 15 5 b = none := by simp [twoO, iff', h5]
   rw [hv]
   clear hv
   go_enter Tryz.func104, Tryz.ntmps104
   go_wp2_with fail
   go_ret2
   exact ⟨_, rfl, fun u hu => (by cases hu), bref _⟩
 ·
  have eh5 : (a == 5) = false := by rw [beq_eq_false_iff_ne]; exact h5
  have nh5 : (a != 5) = true := by rw [bne_iff_ne]; exact h5
  have hv : twoO 15 a b = none := by simp [twoO, iff', h5]
  rw [hv]
  clear hv
  go_enter Tryz.func104, Tryz.ntmps104
  go_wp2_with fail
  go_ret2
  exact ⟨_, rfl, fun u hu => (by cases hu), bref _⟩

set_option maxRecDepth 100000 in
set_option maxHeartbeats 2000000 in
theorem rtwo_none (o a b : Int) (ho : o ≠ 5 ∧ o ≠ 6 ∧ o ≠ 7 ∧ o ≠ 8 ∧ o ≠ 10 ∧ o ≠ 11 ∧ o ≠ 12 ∧ o ≠ 13 ∧ o ≠ 14 ∧ o ≠ 15 ∧ o ≠ 17 ∧ o ≠ 18) (w : World) : Calls Tryz.prog 104 #[.int .i64 o, .int .i64 a, .int .i64 b] w fun r w' => ∃ v, r = .returned (.tuple #[.int .i64 v, .bool (twoO o a b).isSome]) ∧ (∀ u, twoO o a b = some u → v = u) ∧ Below w.heap.size w w' := by
 obtain ⟨h5, h6, h7, h8, h10, h11, h12, h13, h14, h15, h17, h18⟩ := ho
 have eh5 : (o == 5) = false := by rw [beq_eq_false_iff_ne]; exact h5
 have nh5 : (o != 5) = true := by rw [bne_iff_ne]; exact h5
 have eh6 : (o == 6) = false := by rw [beq_eq_false_iff_ne]; exact h6
 have eh7 : (o == 7) = false := by rw [beq_eq_false_iff_ne]; exact h7
 have eh8 : (o == 8) = false := by rw [beq_eq_false_iff_ne]; exact h8
 have eh10 : (o == 10) = false := by rw [beq_eq_false_iff_ne]; exact h10
 have eh11 : (o == 11) = false := by rw [beq_eq_false_iff_ne]; exact h11
 have eh12 : (o == 12) = false := by rw [beq_eq_false_iff_ne]; exact h12
 have eh13 : (o == 13) = false := by rw [beq_eq_false_iff_ne]; exact h13
 have eh14 : (o == 14) = false := by rw [beq_eq_false_iff_ne]; exact h14
 have eh15 : (o == 15) = false := by rw [beq_eq_false_iff_ne]; exact h15
 have eh17 : (o == 17) = false := by rw [beq_eq_false_iff_ne]; exact h17
 have eh18 : (o == 18) = false := by rw [beq_eq_false_iff_ne]; exact h18
 have hv : twoO o a b = none := by simp [twoO, h5, h6, h7, h8, h10, h11, h12, h13, h14, h15, h17, h18]
 rw [hv]
 clear hv
 go_enter Tryz.func104, Tryz.ntmps104
 go_wp2_with fail
 go_ret2
 exact ⟨_, rfl, fun u hu => (by cases hu), bref _⟩

set_option maxRecDepth 100000 in
set_option maxHeartbeats 2000000 in
theorem rtwo (o a b : Int) (w : World) : Calls Tryz.prog 104 #[.int .i64 o, .int .i64 a, .int .i64 b] w fun r w' => ∃ v, r = .returned (.tuple #[.int .i64 v, .bool (twoO o a b).isSome]) ∧ (∀ u, twoO o a b = some u → v = u) ∧ Below w.heap.size w w' := by
 by_cases h5 : o = 5
 ·subst h5; exact rtwo5 a b w
 by_cases h6 : o = 6
 ·subst h6; exact rtwo6 a b w
 by_cases h7 : o = 7
 ·subst h7; exact rtwo7 a b w
 by_cases h8 : o = 8
 ·subst h8; exact rtwo8 a b w
 by_cases h10 : o = 10
 ·subst h10; exact rtwo10 a b w
 by_cases h11 : o = 11
 ·subst h11; exact rtwo11 a b w
 by_cases h12 : o = 12
 ·subst h12; exact rtwo12 a b w
 by_cases h13 : o = 13
 ·subst h13; exact rtwo13 a b w
 by_cases h14 : o = 14
 ·subst h14; exact rtwo14 a b w
 by_cases h15 : o = 15
 ·subst h15; exact rtwo15 a b w
 by_cases h17 : o = 17
 ·subst h17; exact rtwo17 a b w
 by_cases h18 : o = 18
 ·subst h18; exact rtwo18 a b w
 exact rtwo_none o a b ⟨h5, h6, h7, h8, h10, h11, h12, h13, h14, h15, h17, h18⟩ w

theorem ints1 {ao : Option Addr} {a : Int} {w : World} (h : IntsAt ao [a] w) : ∃ b off, ao = some ⟨b, off, none⟩ ∧ w.cell? ⟨b, off, none⟩ = some (.int .i64 a) := by
 obtain ⟨b, off, e, _, c⟩ := h 0 (by simp)
 exact ⟨b, off, e, c⟩
theorem ints2 {ao : Option Addr} {a a2 : Int} {w : World} (h : IntsAt ao [a, a2] w) : ∃ b off, ao = some ⟨b, off, none⟩ ∧ w.cell? ⟨b, off, none⟩ = some (.int .i64 a) ∧ w.cell? ⟨b, off + 1, none⟩ = some (.int .i64 a2) := by
 obtain ⟨b, off, e, _, c⟩ := h 0 (by simp)
 obtain ⟨b', off', e', _, c'⟩ := h 1 (by simp)
 rw [e] at e'
 injection e' with e'
 injection e' with e5 e6
 subst e5
 subst e6
 exact ⟨b, off, e, c, c'⟩
theorem ints3 {ao : Option Addr} {a a2 a3 : Int} {w : World} (h : IntsAt ao [a, a2, a3] w) : ∃ b off, ao = some ⟨b, off, none⟩ ∧ w.cell? ⟨b, off, none⟩ = some (.int .i64 a) ∧ w.cell? ⟨b, off + 1, none⟩ = some (.int .i64 a2) ∧ w.cell? ⟨b, off + 2, none⟩ = some (.int .i64 a3) := by
 obtain ⟨b, off, e, _, c⟩ := h 0 (by simp)
 obtain ⟨b', off', e', _, c'⟩ := h 1 (by simp)
 obtain ⟨b2, off2, e2, _, c2⟩ := h 2 (by simp)
 rw [e] at e' e2
 injection e' with e'
 injection e' with e5 e6
 subst e5
 subst e6
 injection e2 with e2
 injection e2 with e5 e6
 subst e5
 subst e6
 exact ⟨b, off, e, c, c', c2⟩

set_option maxRecDepth 100000 in
set_option maxHeartbeats 2000000 in
theorem rres0 (o : Int) (ao : Option Addr) (cap : Nat) (w : World) : Calls Tryz.prog 94 #[.int .i64 o, .slice ao 0 cap] w fun r w' => ∃ v, r = .returned (.tuple #[.int .i64 v, .bool (rawO o []).isSome]) ∧ (∀ u, rawO o [] = some u → v = u) ∧ Below w.heap.size w w' := by
 have hv : rawO o [] = none := rfl
 rw [hv]
 clear hv
 by_cases h9 : o = 9
 ·subst h9
  go_enter Tryz.func94, Tryz.ntmps94
  go_wp2_with fail
  go_ret2
  exact ⟨_, rfl, fun u hu => (by cases hu), bref _⟩
 have eh9 : (o == 9) = false := by rw [beq_eq_false_iff_ne]; exact h9
 by_cases h16 : o = 16
 ·subst h16
  go_enter Tryz.func94, Tryz.ntmps94
  go_wp2_with fail
  go_ret2
  exact ⟨_, rfl, fun u hu => (by cases hu), bref _⟩
 have eh16 : (o == 16) = false := by rw [beq_eq_false_iff_ne]; exact h16
 by_cases h19 : o = 19
 ·subst h19
  go_enter Tryz.func94, Tryz.ntmps94
  go_wp2_with fail
  go_ret2
  exact ⟨_, rfl, fun u hu => (by cases hu), bref _⟩
 have eh19 : (o == 19) = false := by rw [beq_eq_false_iff_ne]; exact h19
 go_enter Tryz.func94, Tryz.ntmps94
 go_wp2_with fail
 go_ret2
 exact ⟨_, rfl, fun u hu => (by cases hu), bref _⟩

set_option maxRecDepth 100000 in
set_option maxHeartbeats 2000000 in
theorem rres1 (o a : Int) (ao : Option Addr) (cap : Nat) (w : World) (h : IntsAt ao [a] w) : Calls Tryz.prog 94 #[.int .i64 o, .slice ao 1 cap] w fun r w' => ∃ v, r = .returned (.tuple #[.int .i64 v, .bool (rawO o [a]).isSome]) ∧ (∀ u, rawO o [a] = some u → v = u) ∧ Below w.heap.size w w' := by
 obtain ⟨b, off, rfl, c0⟩ := ints1 h
 clear h
 by_cases h9 : o = 9
 ·subst h9
  have hv : rawO 9 [a] = iff' a (scal a) := rfl
  rw [hv]
  clear hv
  obtain ⟨S, hS⟩ : ∃ S, scal a = S := ⟨_, rfl⟩
  have C0 := Lib.hid (fun W => rscal a W)
  rw [hS] at C0 ⊢
  clear hS
  go_enter Tryz.func94, Tryz.ntmps94
  go_wp2_with fail
  refine wp_region_held_drew (S := (fun W => Below w.heap.size w W)) (by kernel_rfl) (bdr (bref _)) (fun hH0 => ?_)
  refine wpAnyH_take (i := 0) (oi := _) (v := ?_) rfl (by kernel_rfl) (by kernel_rfl) (by kernel_rfl) (fun _ _ _ h => h) (Or.inl ⟨?_, ?_⟩) hH0 ?_
  rotate_left
  ·kernel_rfl
  ·(intro W' _; go_simp; (try with_reducible rfl))
  (try simp only [List.getElem_toArray, List.getElem_cons_zero, Act.put, List.setIfInBounds_toArray, List.set_cons_succ, List.set_cons_zero])
  refine wpAnyH_take (i := 1) (oi := _) (v := ?_) rfl (by kernel_rfl) (by kernel_rfl) (by kernel_rfl) (fun _ _ _ h => h) (Or.inl ⟨?_, ?_⟩) hH0 ?_
  rotate_left
  ·kernel_rfl
  ·(intro W' _; go_simp; (try with_reducible rfl))
  (try simp only [List.getElem_toArray, List.getElem_cons_succ, List.getElem_cons_zero, Act.put, List.setIfInBounds_toArray, List.set_cons_succ, List.set_cons_zero])
  refine wpAnyH_take (i := 2) (oi := _) (v := ?_) rfl (by kernel_rfl) (by kernel_rfl) (by kernel_rfl) (fun _ _ _ h => h) (Or.inl ⟨?_, ?_⟩) hH0 ?_
  rotate_left
  ·kernel_rfl
  ·(intro W' hSw; have f0 := keepc hSw c0; go_simp; (try with_reducible rfl))
  (try simp only [List.getElem_toArray, List.getElem_cons_succ, List.getElem_cons_zero, Act.put, List.setIfInBounds_toArray, List.set_cons_succ, List.set_cons_zero])
  refine wpAnyH_take (i := 3) (oi := _) (v := ?_) rfl (by kernel_rfl) (by kernel_rfl) (by kernel_rfl) (fun _ _ _ h => h) (Or.inl ⟨?_, ?_⟩) hH0 ?_
  rotate_left
  ·kernel_rfl
  ·(intro W' _; go_simp; (try with_reducible rfl))
  (try simp only [List.getElem_toArray, List.getElem_cons_succ, List.getElem_cons_zero, Act.put, List.setIfInBounds_toArray, List.set_cons_succ, List.set_cons_zero])
  refine wpAnyH_take (i := 4) (oi := _) (v := ?_) rfl (by kernel_rfl) (by kernel_rfl) (by kernel_rfl) (fun _ _ _ h => h) (Or.inl ⟨?_, ?_⟩) hH0 ?_
  rotate_left
  ·kernel_rfl
  ·(intro W' _; go_simp; (try with_reducible rfl))
  (try simp only [List.getElem_toArray, List.getElem_cons_succ, List.getElem_cons_zero, Act.put, List.setIfInBounds_toArray, List.set_cons_succ, List.set_cons_zero])
  refine wpAnyH_take (i := 5) (oi := _) (v := ?_) rfl (by kernel_rfl) (by kernel_rfl) (by kernel_rfl) (fun _ _ _ h => h) (Or.inl ⟨?_, ?_⟩) hH0 ?_
  rotate_left
  ·kernel_rfl
  ·(intro W' hSw; have f0 := keepc hSw c0; go_simp; (try with_reducible rfl))
  (try simp only [List.getElem_toArray, List.getElem_cons_succ, List.getElem_cons_zero, Act.put, List.setIfInBounds_toArray, List.set_cons_succ, List.set_cons_zero])
  refine wpAnyH_ready (rs := [6]) (by kernel_rfl) (by simp) ?_
  refine AllReadyH.cons (o := _) rfl (fun K hK => ?_) AllReadyH.nil
  go_simp
  refine (C0.out _).mono ?_
  rintro r w1 ⟨rfl, hb1⟩
  refine hK.out _ _ (btr hH0 hb1) (fun hH1 => ?_)
  clear hK K
  (try simp only [List.getElem_toArray, List.getElem_cons_succ, List.getElem_cons_zero, Act.put, List.setIfInBounds_toArray, List.set_cons_succ, List.set_cons_zero])
  refine wpAnyH_take (i := 7) (oi := _) (v := ?_) rfl (by kernel_rfl) (by kernel_rfl) (by kernel_rfl) (fun _ _ _ h => h) (Or.inl ⟨?_, ?_⟩) hH1 ?_
  rotate_left
  ·kernel_rfl
  ·(intro W' _; go_simp; (try with_reducible rfl))
  (try simp only [List.getElem_toArray, List.getElem_cons_succ, List.getElem_cons_zero, Act.put, List.setIfInBounds_toArray, List.set_cons_succ, List.set_cons_zero])
  refine wpAnyH_take (i := 8) (oi := _) (v := ?_) rfl (by kernel_rfl) (by kernel_rfl) (by kernel_rfl) (fun _ _ _ h => h) (Or.inl ⟨?_, ?_⟩) hH1 ?_
  rotate_left
  ·kernel_rfl
  ·(intro W' _; go_simp; (try with_reducible rfl))
  (try simp only [List.getElem_toArray, List.getElem_cons_succ, List.getElem_cons_zero, Act.put, List.setIfInBounds_toArray, List.set_cons_succ, List.set_cons_zero])
  refine wpAnyH_done (by kernel_rfl) ?_ _
  go_wp2_with fail
  cases S with
  | false =>
   go_ret2
   exact ⟨_, rfl, fun u hu => (by cases hu), hH1⟩
  | true =>
   go_ret2
   exact ⟨_, rfl, fun u hu => (by cases hu; rfl), hH1⟩
 have eh9 : (o == 9) = false := by rw [beq_eq_false_iff_ne]; exact h9
 by_cases h16 : o = 16
 ·subst h16
  by_cases h5 : a = 5
  ·subst h5
   have hv : rawO 16 [5] = some 5 := rfl
   rw [hv]
   clear hv
   go_enter Tryz.func94, Tryz.ntmps94
   go_wp2_with fail
   refine wp_region_held_drew (S := (fun W => Below w.heap.size w W)) (by kernel_rfl) (bdr (bref _)) (fun hH0 => ?_)
   refine wpAnyH_take (i := 0) (oi := _) (v := ?_) rfl (by kernel_rfl) (by kernel_rfl) (by kernel_rfl) (fun _ _ _ h => h) (Or.inl ⟨?_, ?_⟩) hH0 ?_
   rotate_left
   ·kernel_rfl
   ·(intro W' _; go_simp; (try with_reducible rfl))
   (try simp only [List.getElem_toArray, List.getElem_cons_zero, Act.put, List.setIfInBounds_toArray, List.set_cons_succ, List.set_cons_zero])
   refine wpAnyH_take (i := 1) (oi := _) (v := ?_) rfl (by kernel_rfl) (by kernel_rfl) (by kernel_rfl) (fun _ _ _ h => h) (Or.inl ⟨?_, ?_⟩) hH0 ?_
   rotate_left
   ·kernel_rfl
   ·(intro W' _; go_simp; (try with_reducible rfl))
   (try simp only [List.getElem_toArray, List.getElem_cons_succ, List.getElem_cons_zero, Act.put, List.setIfInBounds_toArray, List.set_cons_succ, List.set_cons_zero])
   refine wpAnyH_take (i := 2) (oi := _) (v := ?_) rfl (by kernel_rfl) (by kernel_rfl) (by kernel_rfl) (fun _ _ _ h => h) (Or.inl ⟨?_, ?_⟩) hH0 ?_
   rotate_left
   ·kernel_rfl
   ·(intro W' hSw; have f0 := keepc hSw c0; go_simp; (try with_reducible rfl))
   (try simp only [List.getElem_toArray, List.getElem_cons_succ, List.getElem_cons_zero, Act.put, List.setIfInBounds_toArray, List.set_cons_succ, List.set_cons_zero])
   refine wpAnyH_take (i := 3) (oi := _) (v := ?_) rfl (by kernel_rfl) (by kernel_rfl) (by kernel_rfl) (fun _ _ _ h => h) (Or.inl ⟨?_, ?_⟩) hH0 ?_
   rotate_left
   ·kernel_rfl
   ·(intro W' _; go_simp; (try with_reducible rfl))
   (try simp only [List.getElem_toArray, List.getElem_cons_succ, List.getElem_cons_zero, Act.put, List.setIfInBounds_toArray, List.set_cons_succ, List.set_cons_zero])
   refine wpAnyH_take (i := 4) (oi := _) (v := ?_) rfl (by kernel_rfl) (by kernel_rfl) (by kernel_rfl) (fun _ _ _ h => h) (Or.inl ⟨?_, ?_⟩) hH0 ?_
   rotate_left
   ·kernel_rfl
   ·(intro W' _; go_simp; (try with_reducible rfl))
   (try simp only [List.getElem_toArray, List.getElem_cons_succ, List.getElem_cons_zero, Act.put, List.setIfInBounds_toArray, List.set_cons_succ, List.set_cons_zero])
   refine wpAnyH_take (i := 5) (oi := _) (v := ?_) rfl (by kernel_rfl) (by kernel_rfl) (by kernel_rfl) (fun _ _ _ h => h) (Or.inl ⟨?_, ?_⟩) hH0 ?_
   rotate_left
   ·kernel_rfl
   ·(intro W' _; go_simp; (try with_reducible rfl))
   (try simp only [List.getElem_toArray, List.getElem_cons_succ, List.getElem_cons_zero, Act.put, List.setIfInBounds_toArray, List.set_cons_succ, List.set_cons_zero])
   refine wpAnyH_done (by kernel_rfl) ?_ _
   go_wp2_with fail
   go_ret2
   exact ⟨_, rfl, fun u hu => (by cases hu; rfl), hH0⟩
  ·
   have eh5 : (a == 5) = false := by rw [beq_eq_false_iff_ne]; exact h5
   have nh5 : (a != 5) = true := by rw [bne_iff_ne]; exact h5
   have hv : rawO 16 [a] = none := by simp [rawO, iff', h5]
   rw [hv]
   clear hv
   go_enter Tryz.func94, Tryz.ntmps94
   go_wp2_with fail
   refine wp_region_held_drew (S := (fun W => Below w.heap.size w W)) (by kernel_rfl) (bdr (bref _)) (fun hH0 => ?_)
   refine wpAnyH_take (i := 0) (oi := _) (v := ?_) rfl (by kernel_rfl) (by kernel_rfl) (by kernel_rfl) (fun _ _ _ h => h) (Or.inl ⟨?_, ?_⟩) hH0 ?_
   rotate_left
   ·kernel_rfl
   ·(intro W' _; go_simp; (try with_reducible rfl))
   (try simp only [List.getElem_toArray, List.getElem_cons_zero, Act.put, List.setIfInBounds_toArray, List.set_cons_succ, List.set_cons_zero])
   refine wpAnyH_take (i := 1) (oi := _) (v := ?_) rfl (by kernel_rfl) (by kernel_rfl) (by kernel_rfl) (fun _ _ _ h => h) (Or.inl ⟨?_, ?_⟩) hH0 ?_
   rotate_left
   ·kernel_rfl
   ·(intro W' _; go_simp; (try with_reducible rfl))
   (try simp only [List.getElem_toArray, List.getElem_cons_succ, List.getElem_cons_zero, Act.put, List.setIfInBounds_toArray, List.set_cons_succ, List.set_cons_zero])
   refine wpAnyH_take (i := 2) (oi := _) (v := ?_) rfl (by kernel_rfl) (by kernel_rfl) (by kernel_rfl) (fun _ _ _ h => h) (Or.inl ⟨?_, ?_⟩) hH0 ?_
   rotate_left
   ·kernel_rfl
   ·(intro W' hSw; have f0 := keepc hSw c0; go_simp; (try with_reducible rfl))
   (try simp only [List.getElem_toArray, List.getElem_cons_succ, List.getElem_cons_zero, Act.put, List.setIfInBounds_toArray, List.set_cons_succ, List.set_cons_zero])
   refine wpAnyH_take (i := 3) (oi := _) (v := ?_) rfl (by kernel_rfl) (by kernel_rfl) (by kernel_rfl) (fun _ _ _ h => h) (Or.inl ⟨?_, ?_⟩) hH0 ?_
   rotate_left
   ·kernel_rfl
   ·(intro W' _; go_simp; (try with_reducible rfl))
   (try simp only [List.getElem_toArray, List.getElem_cons_succ, List.getElem_cons_zero, Act.put, List.setIfInBounds_toArray, List.set_cons_succ, List.set_cons_zero])
   refine wpAnyH_take (i := 4) (oi := _) (v := ?_) rfl (by kernel_rfl) (by kernel_rfl) (by kernel_rfl) (fun _ _ _ h => h) (Or.inl ⟨?_, ?_⟩) hH0 ?_
   rotate_left
   ·kernel_rfl
   ·(intro W' _; go_simp; (try with_reducible rfl))
   (try simp only [List.getElem_toArray, List.getElem_cons_succ, List.getElem_cons_zero, Act.put, List.setIfInBounds_toArray, List.set_cons_succ, List.set_cons_zero])
   refine wpAnyH_take (i := 5) (oi := _) (v := ?_) rfl (by kernel_rfl) (by kernel_rfl) (by kernel_rfl) (fun _ _ _ h => h) (Or.inl ⟨?_, ?_⟩) hH0 ?_
   rotate_left
   ·kernel_rfl
   ·(intro W' _; go_simp; (try with_reducible rfl))
   (try simp only [List.getElem_toArray, List.getElem_cons_succ, List.getElem_cons_zero, Act.put, List.setIfInBounds_toArray, List.set_cons_succ, List.set_cons_zero])
   refine wpAnyH_done (by kernel_rfl) ?_ _
   go_wp2_with fail
   go_ret2
   exact ⟨_, rfl, fun u hu => (by cases hu), hH0⟩
 have eh16 : (o == 16) = false := by rw [beq_eq_false_iff_ne]; exact h16
 have hv : rawO o [a] = none := by simp [rawO, h9, h16]
 rw [hv]
 clear hv
 by_cases h19 : o = 19
 ·subst h19
  go_enter Tryz.func94, Tryz.ntmps94
  go_wp2_with fail
  go_ret2
  exact ⟨_, rfl, fun u hu => (by cases hu), bref _⟩
 have eh19 : (o == 19) = false := by rw [beq_eq_false_iff_ne]; exact h19
 go_enter Tryz.func94, Tryz.ntmps94
 go_wp2_with fail
 go_ret2
 exact ⟨_, rfl, fun u hu => (by cases hu), bref _⟩

set_option maxRecDepth 100000 in
set_option maxHeartbeats 2000000 in
theorem rres2 (o a a2 : Int) (ao : Option Addr) (cap : Nat) (w : World) (h : IntsAt ao [a, a2] w) : Calls Tryz.prog 94 #[.int .i64 o, .slice ao 2 cap] w fun r w' => ∃ v, r = .returned (.tuple #[.int .i64 v, .bool (rawO o [a, a2]).isSome]) ∧ (∀ u, rawO o [a, a2] = some u → v = u) ∧ Below w.heap.size w w' := by
 obtain ⟨b, off, rfl, c0, c1⟩ := ints2 h
 clear h
 have hv : rawO o [a, a2] = twoO o a a2 := rfl
 rw [hv]
 clear hv
 have C0 := Lib.hid (fun W => rtwo o a a2 W)
 obtain ⟨R, hR⟩ : ∃ R, twoO o a a2 = R := ⟨_, rfl⟩
 rw [hR] at C0 ⊢
 clear hR
 obtain ⟨S, hS⟩ : ∃ S, R.isSome = S := ⟨_, rfl⟩
 rw [hS] at C0 ⊢
 clear hS
 by_cases h9 : o = 9
 ·subst h9
  go_enter Tryz.func94, Tryz.ntmps94
  go_wp2_with fail
  refine wp_region_held_drew (S := (fun W => Below w.heap.size w W)) (by kernel_rfl) (bdr (bref _)) (fun hH0 => ?_)
  refine wpAnyH_take (i := 0) (oi := _) (v := ?_) rfl (by kernel_rfl) (by kernel_rfl) (by kernel_rfl) (fun _ _ _ h => h) (Or.inl ⟨?_, ?_⟩) hH0 ?_
  rotate_left
  ·kernel_rfl
  ·(intro W' _; go_simp; (try with_reducible rfl))
  (try simp only [List.getElem_toArray, List.getElem_cons_zero, Act.put, List.setIfInBounds_toArray, List.set_cons_succ, List.set_cons_zero])
  refine wpAnyH_take (i := 1) (oi := _) (v := ?_) rfl (by kernel_rfl) (by kernel_rfl) (by kernel_rfl) (fun _ _ _ h => h) (Or.inl ⟨?_, ?_⟩) hH0 ?_
  rotate_left
  ·kernel_rfl
  ·(intro W' _; go_simp; (try with_reducible rfl))
  (try simp only [List.getElem_toArray, List.getElem_cons_succ, List.getElem_cons_zero, Act.put, List.setIfInBounds_toArray, List.set_cons_succ, List.set_cons_zero])
  refine wpAnyH_take (i := 2) (oi := _) (v := ?_) rfl (by kernel_rfl) (by kernel_rfl) (by kernel_rfl) (fun _ _ _ h => h) (Or.inl ⟨?_, ?_⟩) hH0 ?_
  rotate_left
  ·kernel_rfl
  ·(intro W' _; go_simp; (try with_reducible rfl))
  (try simp only [List.getElem_toArray, List.getElem_cons_succ, List.getElem_cons_zero, Act.put, List.setIfInBounds_toArray, List.set_cons_succ, List.set_cons_zero])
  refine wpAnyH_take (i := 3) (oi := _) (v := ?_) rfl (by kernel_rfl) (by kernel_rfl) (by kernel_rfl) (fun _ _ _ h => h) (Or.inl ⟨?_, ?_⟩) hH0 ?_
  rotate_left
  ·kernel_rfl
  ·(intro W' hSw; have f0 := keepc hSw c0; have f1 := keepc hSw c1; go_simp; (try with_reducible rfl))
  (try simp only [List.getElem_toArray, List.getElem_cons_succ, List.getElem_cons_zero, Act.put, List.setIfInBounds_toArray, List.set_cons_succ, List.set_cons_zero])
  refine wpAnyH_take (i := 4) (oi := _) (v := ?_) rfl (by kernel_rfl) (by kernel_rfl) (by kernel_rfl) (fun _ _ _ h => h) (Or.inl ⟨?_, ?_⟩) hH0 ?_
  rotate_left
  ·kernel_rfl
  ·(intro W' _; go_simp; (try with_reducible rfl))
  (try simp only [List.getElem_toArray, List.getElem_cons_succ, List.getElem_cons_zero, Act.put, List.setIfInBounds_toArray, List.set_cons_succ, List.set_cons_zero])
  refine wpAnyH_take (i := 5) (oi := _) (v := ?_) rfl (by kernel_rfl) (by kernel_rfl) (by kernel_rfl) (fun _ _ _ h => h) (Or.inl ⟨?_, ?_⟩) hH0 ?_
  rotate_left
  ·kernel_rfl
  ·(intro W' _; go_simp; (try with_reducible rfl))
  (try simp only [List.getElem_toArray, List.getElem_cons_succ, List.getElem_cons_zero, Act.put, List.setIfInBounds_toArray, List.set_cons_succ, List.set_cons_zero])
  refine wpAnyH_take (i := 6) (oi := _) (v := ?_) rfl (by kernel_rfl) (by kernel_rfl) (by kernel_rfl) (fun _ _ _ h => h) (Or.inl ⟨?_, ?_⟩) hH0 ?_
  rotate_left
  ·kernel_rfl
  ·(intro W' hSw; have f0 := keepc hSw c0; have f1 := keepc hSw c1; go_simp; (try with_reducible rfl))
  (try simp only [List.getElem_toArray, List.getElem_cons_succ, List.getElem_cons_zero, Act.put, List.setIfInBounds_toArray, List.set_cons_succ, List.set_cons_zero])
  refine wpAnyH_ready (rs := [7]) (by kernel_rfl) (by simp) ?_
  refine AllReadyH.cons (o := _) rfl (fun K hK => ?_) AllReadyH.nil
  go_simp
  refine (C0.out _).mono ?_
  rintro r w1 ⟨v0, rfl, hv0, hb1⟩
  refine hK.out _ _ (btr hH0 hb1) (fun hH1 => ?_)
  clear hK K
  (try simp only [List.getElem_toArray, List.getElem_cons_succ, List.getElem_cons_zero, Act.put, List.setIfInBounds_toArray, List.set_cons_succ, List.set_cons_zero])
  refine wpAnyH_take (i := 8) (oi := _) (v := ?_) rfl (by kernel_rfl) (by kernel_rfl) (by kernel_rfl) (fun _ _ _ h => h) (Or.inl ⟨?_, ?_⟩) hH1 ?_
  rotate_left
  ·kernel_rfl
  ·(intro W' _; go_simp; (try with_reducible rfl))
  (try simp only [List.getElem_toArray, List.getElem_cons_succ, List.getElem_cons_zero, Act.put, List.setIfInBounds_toArray, List.set_cons_succ, List.set_cons_zero])
  refine wpAnyH_take (i := 9) (oi := _) (v := ?_) rfl (by kernel_rfl) (by kernel_rfl) (by kernel_rfl) (fun _ _ _ h => h) (Or.inl ⟨?_, ?_⟩) hH1 ?_
  rotate_left
  ·kernel_rfl
  ·(intro W' _; go_simp; (try with_reducible rfl))
  (try simp only [List.getElem_toArray, List.getElem_cons_succ, List.getElem_cons_zero, Act.put, List.setIfInBounds_toArray, List.set_cons_succ, List.set_cons_zero])
  refine wpAnyH_take (i := 10) (oi := _) (v := ?_) rfl (by kernel_rfl) (by kernel_rfl) (by kernel_rfl) (fun _ _ _ h => h) (Or.inl ⟨?_, ?_⟩) hH1 ?_
  rotate_left
  ·kernel_rfl
  ·(intro W' _; go_simp; (try with_reducible rfl))
  (try simp only [List.getElem_toArray, List.getElem_cons_succ, List.getElem_cons_zero, Act.put, List.setIfInBounds_toArray, List.set_cons_succ, List.set_cons_zero])
  refine wpAnyH_take (i := 11) (oi := _) (v := ?_) rfl (by kernel_rfl) (by kernel_rfl) (by kernel_rfl) (fun _ _ _ h => h) (Or.inl ⟨?_, ?_⟩) hH1 ?_
  rotate_left
  ·kernel_rfl
  ·(intro W' _; go_simp; (try with_reducible rfl))
  (try simp only [List.getElem_toArray, List.getElem_cons_succ, List.getElem_cons_zero, Act.put, List.setIfInBounds_toArray, List.set_cons_succ, List.set_cons_zero])
  refine wpAnyH_done (by kernel_rfl) ?_ _
  have HV := Lib.hid hv0
  clear hv0
  go_wp2_with fail
  go_ret2
  exact ⟨_, rfl, HV.out, hH1⟩
 have eh9 : (o == 9) = false := by rw [beq_eq_false_iff_ne]; exact h9
 by_cases h16 : o = 16
 ·subst h16
  go_enter Tryz.func94, Tryz.ntmps94
  go_wp2_with fail
  refine wp_region_held_drew (S := (fun W => Below w.heap.size w W)) (by kernel_rfl) (bdr (bref _)) (fun hH0 => ?_)
  refine wpAnyH_take (i := 0) (oi := _) (v := ?_) rfl (by kernel_rfl) (by kernel_rfl) (by kernel_rfl) (fun _ _ _ h => h) (Or.inl ⟨?_, ?_⟩) hH0 ?_
  rotate_left
  ·kernel_rfl
  ·(intro W' _; go_simp; (try with_reducible rfl))
  (try simp only [List.getElem_toArray, List.getElem_cons_zero, Act.put, List.setIfInBounds_toArray, List.set_cons_succ, List.set_cons_zero])
  refine wpAnyH_take (i := 1) (oi := _) (v := ?_) rfl (by kernel_rfl) (by kernel_rfl) (by kernel_rfl) (fun _ _ _ h => h) (Or.inl ⟨?_, ?_⟩) hH0 ?_
  rotate_left
  ·kernel_rfl
  ·(intro W' _; go_simp; (try with_reducible rfl))
  (try simp only [List.getElem_toArray, List.getElem_cons_succ, List.getElem_cons_zero, Act.put, List.setIfInBounds_toArray, List.set_cons_succ, List.set_cons_zero])
  refine wpAnyH_take (i := 2) (oi := _) (v := ?_) rfl (by kernel_rfl) (by kernel_rfl) (by kernel_rfl) (fun _ _ _ h => h) (Or.inl ⟨?_, ?_⟩) hH0 ?_
  rotate_left
  ·kernel_rfl
  ·(intro W' _; go_simp; (try with_reducible rfl))
  (try simp only [List.getElem_toArray, List.getElem_cons_succ, List.getElem_cons_zero, Act.put, List.setIfInBounds_toArray, List.set_cons_succ, List.set_cons_zero])
  refine wpAnyH_take (i := 3) (oi := _) (v := ?_) rfl (by kernel_rfl) (by kernel_rfl) (by kernel_rfl) (fun _ _ _ h => h) (Or.inl ⟨?_, ?_⟩) hH0 ?_
  rotate_left
  ·kernel_rfl
  ·(intro W' hSw; have f0 := keepc hSw c0; have f1 := keepc hSw c1; go_simp; (try with_reducible rfl))
  (try simp only [List.getElem_toArray, List.getElem_cons_succ, List.getElem_cons_zero, Act.put, List.setIfInBounds_toArray, List.set_cons_succ, List.set_cons_zero])
  refine wpAnyH_take (i := 4) (oi := _) (v := ?_) rfl (by kernel_rfl) (by kernel_rfl) (by kernel_rfl) (fun _ _ _ h => h) (Or.inl ⟨?_, ?_⟩) hH0 ?_
  rotate_left
  ·kernel_rfl
  ·(intro W' _; go_simp; (try with_reducible rfl))
  (try simp only [List.getElem_toArray, List.getElem_cons_succ, List.getElem_cons_zero, Act.put, List.setIfInBounds_toArray, List.set_cons_succ, List.set_cons_zero])
  refine wpAnyH_take (i := 5) (oi := _) (v := ?_) rfl (by kernel_rfl) (by kernel_rfl) (by kernel_rfl) (fun _ _ _ h => h) (Or.inl ⟨?_, ?_⟩) hH0 ?_
  rotate_left
  ·kernel_rfl
  ·(intro W' _; go_simp; (try with_reducible rfl))
  (try simp only [List.getElem_toArray, List.getElem_cons_succ, List.getElem_cons_zero, Act.put, List.setIfInBounds_toArray, List.set_cons_succ, List.set_cons_zero])
  refine wpAnyH_take (i := 6) (oi := _) (v := ?_) rfl (by kernel_rfl) (by kernel_rfl) (by kernel_rfl) (fun _ _ _ h => h) (Or.inl ⟨?_, ?_⟩) hH0 ?_
  rotate_left
  ·kernel_rfl
  ·(intro W' hSw; have f0 := keepc hSw c0; have f1 := keepc hSw c1; go_simp; (try with_reducible rfl))
  (try simp only [List.getElem_toArray, List.getElem_cons_succ, List.getElem_cons_zero, Act.put, List.setIfInBounds_toArray, List.set_cons_succ, List.set_cons_zero])
  refine wpAnyH_ready (rs := [7]) (by kernel_rfl) (by simp) ?_
  refine AllReadyH.cons (o := _) rfl (fun K hK => ?_) AllReadyH.nil
  go_simp
  refine (C0.out _).mono ?_
  rintro r w1 ⟨v0, rfl, hv0, hb1⟩
  refine hK.out _ _ (btr hH0 hb1) (fun hH1 => ?_)
  clear hK K
  (try simp only [List.getElem_toArray, List.getElem_cons_succ, List.getElem_cons_zero, Act.put, List.setIfInBounds_toArray, List.set_cons_succ, List.set_cons_zero])
  refine wpAnyH_take (i := 8) (oi := _) (v := ?_) rfl (by kernel_rfl) (by kernel_rfl) (by kernel_rfl) (fun _ _ _ h => h) (Or.inl ⟨?_, ?_⟩) hH1 ?_
  rotate_left
  ·kernel_rfl
  ·(intro W' _; go_simp; (try with_reducible rfl))
  (try simp only [List.getElem_toArray, List.getElem_cons_succ, List.getElem_cons_zero, Act.put, List.setIfInBounds_toArray, List.set_cons_succ, List.set_cons_zero])
  refine wpAnyH_take (i := 9) (oi := _) (v := ?_) rfl (by kernel_rfl) (by kernel_rfl) (by kernel_rfl) (fun _ _ _ h => h) (Or.inl ⟨?_, ?_⟩) hH1 ?_
  rotate_left
  ·kernel_rfl
  ·(intro W' _; go_simp; (try with_reducible rfl))
  (try simp only [List.getElem_toArray, List.getElem_cons_succ, List.getElem_cons_zero, Act.put, List.setIfInBounds_toArray, List.set_cons_succ, List.set_cons_zero])
  refine wpAnyH_take (i := 10) (oi := _) (v := ?_) rfl (by kernel_rfl) (by kernel_rfl) (by kernel_rfl) (fun _ _ _ h => h) (Or.inl ⟨?_, ?_⟩) hH1 ?_
  rotate_left
  ·kernel_rfl
  ·(intro W' _; go_simp; (try with_reducible rfl))
  (try simp only [List.getElem_toArray, List.getElem_cons_succ, List.getElem_cons_zero, Act.put, List.setIfInBounds_toArray, List.set_cons_succ, List.set_cons_zero])
  refine wpAnyH_take (i := 11) (oi := _) (v := ?_) rfl (by kernel_rfl) (by kernel_rfl) (by kernel_rfl) (fun _ _ _ h => h) (Or.inl ⟨?_, ?_⟩) hH1 ?_
  rotate_left
  ·kernel_rfl
  ·(intro W' _; go_simp; (try with_reducible rfl))
  (try simp only [List.getElem_toArray, List.getElem_cons_succ, List.getElem_cons_zero, Act.put, List.setIfInBounds_toArray, List.set_cons_succ, List.set_cons_zero])
  refine wpAnyH_done (by kernel_rfl) ?_ _
  have HV := Lib.hid hv0
  clear hv0
  go_wp2_with fail
  go_ret2
  exact ⟨_, rfl, HV.out, hH1⟩
 have eh16 : (o == 16) = false := by rw [beq_eq_false_iff_ne]; exact h16
 by_cases h19 : o = 19
 ·subst h19
  go_enter Tryz.func94, Tryz.ntmps94
  go_wp2_with fail
  refine wp_region_held_drew (S := (fun W => Below w.heap.size w W)) (by kernel_rfl) (bdr (bref _)) (fun hH0 => ?_)
  refine wpAnyH_take (i := 0) (oi := _) (v := ?_) rfl (by kernel_rfl) (by kernel_rfl) (by kernel_rfl) (fun _ _ _ h => h) (Or.inl ⟨?_, ?_⟩) hH0 ?_
  rotate_left
  ·kernel_rfl
  ·(intro W' _; go_simp; (try with_reducible rfl))
  (try simp only [List.getElem_toArray, List.getElem_cons_zero, Act.put, List.setIfInBounds_toArray, List.set_cons_succ, List.set_cons_zero])
  refine wpAnyH_take (i := 1) (oi := _) (v := ?_) rfl (by kernel_rfl) (by kernel_rfl) (by kernel_rfl) (fun _ _ _ h => h) (Or.inl ⟨?_, ?_⟩) hH0 ?_
  rotate_left
  ·kernel_rfl
  ·(intro W' _; go_simp; (try with_reducible rfl))
  (try simp only [List.getElem_toArray, List.getElem_cons_succ, List.getElem_cons_zero, Act.put, List.setIfInBounds_toArray, List.set_cons_succ, List.set_cons_zero])
  refine wpAnyH_take (i := 2) (oi := _) (v := ?_) rfl (by kernel_rfl) (by kernel_rfl) (by kernel_rfl) (fun _ _ _ h => h) (Or.inl ⟨?_, ?_⟩) hH0 ?_
  rotate_left
  ·kernel_rfl
  ·(intro W' _; go_simp; (try with_reducible rfl))
  (try simp only [List.getElem_toArray, List.getElem_cons_succ, List.getElem_cons_zero, Act.put, List.setIfInBounds_toArray, List.set_cons_succ, List.set_cons_zero])
  refine wpAnyH_take (i := 3) (oi := _) (v := ?_) rfl (by kernel_rfl) (by kernel_rfl) (by kernel_rfl) (fun _ _ _ h => h) (Or.inl ⟨?_, ?_⟩) hH0 ?_
  rotate_left
  ·kernel_rfl
  ·(intro W' hSw; have f0 := keepc hSw c0; have f1 := keepc hSw c1; go_simp; (try with_reducible rfl))
  (try simp only [List.getElem_toArray, List.getElem_cons_succ, List.getElem_cons_zero, Act.put, List.setIfInBounds_toArray, List.set_cons_succ, List.set_cons_zero])
  refine wpAnyH_take (i := 4) (oi := _) (v := ?_) rfl (by kernel_rfl) (by kernel_rfl) (by kernel_rfl) (fun _ _ _ h => h) (Or.inl ⟨?_, ?_⟩) hH0 ?_
  rotate_left
  ·kernel_rfl
  ·(intro W' _; go_simp; (try with_reducible rfl))
  (try simp only [List.getElem_toArray, List.getElem_cons_succ, List.getElem_cons_zero, Act.put, List.setIfInBounds_toArray, List.set_cons_succ, List.set_cons_zero])
  refine wpAnyH_take (i := 5) (oi := _) (v := ?_) rfl (by kernel_rfl) (by kernel_rfl) (by kernel_rfl) (fun _ _ _ h => h) (Or.inl ⟨?_, ?_⟩) hH0 ?_
  rotate_left
  ·kernel_rfl
  ·(intro W' _; go_simp; (try with_reducible rfl))
  (try simp only [List.getElem_toArray, List.getElem_cons_succ, List.getElem_cons_zero, Act.put, List.setIfInBounds_toArray, List.set_cons_succ, List.set_cons_zero])
  refine wpAnyH_take (i := 6) (oi := _) (v := ?_) rfl (by kernel_rfl) (by kernel_rfl) (by kernel_rfl) (fun _ _ _ h => h) (Or.inl ⟨?_, ?_⟩) hH0 ?_
  rotate_left
  ·kernel_rfl
  ·(intro W' hSw; have f0 := keepc hSw c0; have f1 := keepc hSw c1; go_simp; (try with_reducible rfl))
  (try simp only [List.getElem_toArray, List.getElem_cons_succ, List.getElem_cons_zero, Act.put, List.setIfInBounds_toArray, List.set_cons_succ, List.set_cons_zero])
  refine wpAnyH_ready (rs := [7]) (by kernel_rfl) (by simp) ?_
  refine AllReadyH.cons (o := _) rfl (fun K hK => ?_) AllReadyH.nil
  go_simp
  refine (C0.out _).mono ?_
  rintro r w1 ⟨v0, rfl, hv0, hb1⟩
  refine hK.out _ _ (btr hH0 hb1) (fun hH1 => ?_)
  clear hK K
  (try simp only [List.getElem_toArray, List.getElem_cons_succ, List.getElem_cons_zero, Act.put, List.setIfInBounds_toArray, List.set_cons_succ, List.set_cons_zero])
  refine wpAnyH_take (i := 8) (oi := _) (v := ?_) rfl (by kernel_rfl) (by kernel_rfl) (by kernel_rfl) (fun _ _ _ h => h) (Or.inl ⟨?_, ?_⟩) hH1 ?_
  rotate_left
  ·kernel_rfl
  ·(intro W' _; go_simp; (try with_reducible rfl))
  (try simp only [List.getElem_toArray, List.getElem_cons_succ, List.getElem_cons_zero, Act.put, List.setIfInBounds_toArray, List.set_cons_succ, List.set_cons_zero])
  refine wpAnyH_take (i := 9) (oi := _) (v := ?_) rfl (by kernel_rfl) (by kernel_rfl) (by kernel_rfl) (fun _ _ _ h => h) (Or.inl ⟨?_, ?_⟩) hH1 ?_
  rotate_left
  ·kernel_rfl
  ·(intro W' _; go_simp; (try with_reducible rfl))
  (try simp only [List.getElem_toArray, List.getElem_cons_succ, List.getElem_cons_zero, Act.put, List.setIfInBounds_toArray, List.set_cons_succ, List.set_cons_zero])
  refine wpAnyH_take (i := 10) (oi := _) (v := ?_) rfl (by kernel_rfl) (by kernel_rfl) (by kernel_rfl) (fun _ _ _ h => h) (Or.inl ⟨?_, ?_⟩) hH1 ?_
  rotate_left
  ·kernel_rfl
  ·(intro W' _; go_simp; (try with_reducible rfl))
  (try simp only [List.getElem_toArray, List.getElem_cons_succ, List.getElem_cons_zero, Act.put, List.setIfInBounds_toArray, List.set_cons_succ, List.set_cons_zero])
  refine wpAnyH_take (i := 11) (oi := _) (v := ?_) rfl (by kernel_rfl) (by kernel_rfl) (by kernel_rfl) (fun _ _ _ h => h) (Or.inl ⟨?_, ?_⟩) hH1 ?_
  rotate_left
  ·kernel_rfl
  ·(intro W' _; go_simp; (try with_reducible rfl))
  (try simp only [List.getElem_toArray, List.getElem_cons_succ, List.getElem_cons_zero, Act.put, List.setIfInBounds_toArray, List.set_cons_succ, List.set_cons_zero])
  refine wpAnyH_done (by kernel_rfl) ?_ _
  have HV := Lib.hid hv0
  clear hv0
  go_wp2_with fail
  go_ret2
  exact ⟨_, rfl, HV.out, hH1⟩
 have eh19 : (o == 19) = false := by rw [beq_eq_false_iff_ne]; exact h19
 go_enter Tryz.func94, Tryz.ntmps94
 go_wp2_with fail
 refine wp_region_held_drew (S := (fun W => Below w.heap.size w W)) (by kernel_rfl) (bdr (bref _)) (fun hH0 => ?_)
 refine wpAnyH_take (i := 0) (oi := _) (v := ?_) rfl (by kernel_rfl) (by kernel_rfl) (by kernel_rfl) (fun _ _ _ h => h) (Or.inl ⟨?_, ?_⟩) hH0 ?_
 rotate_left
 ·kernel_rfl
 ·(intro W' _; go_simp; (try with_reducible rfl))
 (try simp only [List.getElem_toArray, List.getElem_cons_zero, Act.put, List.setIfInBounds_toArray, List.set_cons_succ, List.set_cons_zero])
 refine wpAnyH_take (i := 1) (oi := _) (v := ?_) rfl (by kernel_rfl) (by kernel_rfl) (by kernel_rfl) (fun _ _ _ h => h) (Or.inl ⟨?_, ?_⟩) hH0 ?_
 rotate_left
 ·kernel_rfl
 ·(intro W' _; go_simp; (try with_reducible rfl))
 (try simp only [List.getElem_toArray, List.getElem_cons_succ, List.getElem_cons_zero, Act.put, List.setIfInBounds_toArray, List.set_cons_succ, List.set_cons_zero])
 refine wpAnyH_take (i := 2) (oi := _) (v := ?_) rfl (by kernel_rfl) (by kernel_rfl) (by kernel_rfl) (fun _ _ _ h => h) (Or.inl ⟨?_, ?_⟩) hH0 ?_
 rotate_left
 ·kernel_rfl
 ·(intro W' _; go_simp; (try with_reducible rfl))
 (try simp only [List.getElem_toArray, List.getElem_cons_succ, List.getElem_cons_zero, Act.put, List.setIfInBounds_toArray, List.set_cons_succ, List.set_cons_zero])
 refine wpAnyH_take (i := 3) (oi := _) (v := ?_) rfl (by kernel_rfl) (by kernel_rfl) (by kernel_rfl) (fun _ _ _ h => h) (Or.inl ⟨?_, ?_⟩) hH0 ?_
 rotate_left
 ·kernel_rfl
 ·(intro W' hSw; have f0 := keepc hSw c0; have f1 := keepc hSw c1; go_simp; (try with_reducible rfl))
 (try simp only [List.getElem_toArray, List.getElem_cons_succ, List.getElem_cons_zero, Act.put, List.setIfInBounds_toArray, List.set_cons_succ, List.set_cons_zero])
 refine wpAnyH_take (i := 4) (oi := _) (v := ?_) rfl (by kernel_rfl) (by kernel_rfl) (by kernel_rfl) (fun _ _ _ h => h) (Or.inl ⟨?_, ?_⟩) hH0 ?_
 rotate_left
 ·kernel_rfl
 ·(intro W' _; go_simp; (try with_reducible rfl))
 (try simp only [List.getElem_toArray, List.getElem_cons_succ, List.getElem_cons_zero, Act.put, List.setIfInBounds_toArray, List.set_cons_succ, List.set_cons_zero])
 refine wpAnyH_take (i := 5) (oi := _) (v := ?_) rfl (by kernel_rfl) (by kernel_rfl) (by kernel_rfl) (fun _ _ _ h => h) (Or.inl ⟨?_, ?_⟩) hH0 ?_
 rotate_left
 ·kernel_rfl
 ·(intro W' _; go_simp; (try with_reducible rfl))
 (try simp only [List.getElem_toArray, List.getElem_cons_succ, List.getElem_cons_zero, Act.put, List.setIfInBounds_toArray, List.set_cons_succ, List.set_cons_zero])
 refine wpAnyH_take (i := 6) (oi := _) (v := ?_) rfl (by kernel_rfl) (by kernel_rfl) (by kernel_rfl) (fun _ _ _ h => h) (Or.inl ⟨?_, ?_⟩) hH0 ?_
 rotate_left
 ·kernel_rfl
 ·(intro W' hSw; have f0 := keepc hSw c0; have f1 := keepc hSw c1; go_simp; (try with_reducible rfl))
 (try simp only [List.getElem_toArray, List.getElem_cons_succ, List.getElem_cons_zero, Act.put, List.setIfInBounds_toArray, List.set_cons_succ, List.set_cons_zero])
 refine wpAnyH_ready (rs := [7]) (by kernel_rfl) (by simp) ?_
 refine AllReadyH.cons (o := _) rfl (fun K hK => ?_) AllReadyH.nil
 go_simp
 refine (C0.out _).mono ?_
 rintro r w1 ⟨v0, rfl, hv0, hb1⟩
 refine hK.out _ _ (btr hH0 hb1) (fun hH1 => ?_)
 clear hK K
 (try simp only [List.getElem_toArray, List.getElem_cons_succ, List.getElem_cons_zero, Act.put, List.setIfInBounds_toArray, List.set_cons_succ, List.set_cons_zero])
 refine wpAnyH_take (i := 8) (oi := _) (v := ?_) rfl (by kernel_rfl) (by kernel_rfl) (by kernel_rfl) (fun _ _ _ h => h) (Or.inl ⟨?_, ?_⟩) hH1 ?_
 rotate_left
 ·kernel_rfl
 ·(intro W' _; go_simp; (try with_reducible rfl))
 (try simp only [List.getElem_toArray, List.getElem_cons_succ, List.getElem_cons_zero, Act.put, List.setIfInBounds_toArray, List.set_cons_succ, List.set_cons_zero])
 refine wpAnyH_take (i := 9) (oi := _) (v := ?_) rfl (by kernel_rfl) (by kernel_rfl) (by kernel_rfl) (fun _ _ _ h => h) (Or.inl ⟨?_, ?_⟩) hH1 ?_
 rotate_left
 ·kernel_rfl
 ·(intro W' _; go_simp; (try with_reducible rfl))
 (try simp only [List.getElem_toArray, List.getElem_cons_succ, List.getElem_cons_zero, Act.put, List.setIfInBounds_toArray, List.set_cons_succ, List.set_cons_zero])
 refine wpAnyH_take (i := 10) (oi := _) (v := ?_) rfl (by kernel_rfl) (by kernel_rfl) (by kernel_rfl) (fun _ _ _ h => h) (Or.inl ⟨?_, ?_⟩) hH1 ?_
 rotate_left
 ·kernel_rfl
 ·(intro W' _; go_simp; (try with_reducible rfl))
 (try simp only [List.getElem_toArray, List.getElem_cons_succ, List.getElem_cons_zero, Act.put, List.setIfInBounds_toArray, List.set_cons_succ, List.set_cons_zero])
 refine wpAnyH_take (i := 11) (oi := _) (v := ?_) rfl (by kernel_rfl) (by kernel_rfl) (by kernel_rfl) (fun _ _ _ h => h) (Or.inl ⟨?_, ?_⟩) hH1 ?_
 rotate_left
 ·kernel_rfl
 ·(intro W' _; go_simp; (try with_reducible rfl))
 (try simp only [List.getElem_toArray, List.getElem_cons_succ, List.getElem_cons_zero, Act.put, List.setIfInBounds_toArray, List.set_cons_succ, List.set_cons_zero])
 refine wpAnyH_done (by kernel_rfl) ?_ _
 have HV := Lib.hid hv0
 clear hv0
 go_wp2_with fail
 go_ret2
 exact ⟨_, rfl, HV.out, hH1⟩

set_option maxRecDepth 100000 in
set_option maxHeartbeats 2000000 in
theorem rres3 (o a a2 a3 : Int) (ao : Option Addr) (cap : Nat) (w : World) (h : IntsAt ao [a, a2, a3] w) : Calls Tryz.prog 94 #[.int .i64 o, .slice ao 3 cap] w fun r w' => ∃ v, r = .returned (.tuple #[.int .i64 v, .bool (rawO o [a, a2, a3]).isSome]) ∧ (∀ u, rawO o [a, a2, a3] = some u → v = u) ∧ Below w.heap.size w w' := by
 obtain ⟨b, off, rfl, c0, c1, c2⟩ := ints3 h
 clear h
 by_cases h19 : o = 19
 ·subst h19
  by_cases h5 : a = 5
  ·subst h5
   by_cases h23 : a2 = a3
   ·subst h23
    have hv : rawO 19 [5, a2, a2] = some a2 := by simp [rawO, iff']
    rw [hv]
    clear hv
    go_enter Tryz.func94, Tryz.ntmps94
    go_wp2_with fail
    refine wp_region_held_drew (S := (fun W => Below w.heap.size w W)) (by kernel_rfl) (bdr (bref _)) (fun hH0 => ?_)
    refine wpAnyH_take (i := 0) (oi := _) (v := ?_) rfl (by kernel_rfl) (by kernel_rfl) (by kernel_rfl) (fun _ _ _ h => h) (Or.inl ⟨?_, ?_⟩) hH0 ?_
    rotate_left
    ·kernel_rfl
    ·(intro W' _; go_simp; (try with_reducible rfl))
    (try simp only [List.getElem_toArray, List.getElem_cons_zero, Act.put, List.setIfInBounds_toArray, List.set_cons_succ, List.set_cons_zero])
    refine wpAnyH_take (i := 1) (oi := _) (v := ?_) rfl (by kernel_rfl) (by kernel_rfl) (by kernel_rfl) (fun _ _ _ h => h) (Or.inl ⟨?_, ?_⟩) hH0 ?_
    rotate_left
    ·kernel_rfl
    ·(intro W' _; go_simp; (try with_reducible rfl))
    (try simp only [List.getElem_toArray, List.getElem_cons_succ, List.getElem_cons_zero, Act.put, List.setIfInBounds_toArray, List.set_cons_succ, List.set_cons_zero])
    refine wpAnyH_take (i := 2) (oi := _) (v := ?_) rfl (by kernel_rfl) (by kernel_rfl) (by kernel_rfl) (fun _ _ _ h => h) (Or.inl ⟨?_, ?_⟩) hH0 ?_
    rotate_left
    ·kernel_rfl
    ·(intro W' hSw; have f0 := keepc hSw c0; have f1 := keepc hSw c1; have f2 := keepc hSw c2; go_simp; (try with_reducible rfl))
    (try simp only [List.getElem_toArray, List.getElem_cons_succ, List.getElem_cons_zero, Act.put, List.setIfInBounds_toArray, List.set_cons_succ, List.set_cons_zero])
    refine wpAnyH_take (i := 3) (oi := _) (v := ?_) rfl (by kernel_rfl) (by kernel_rfl) (by kernel_rfl) (fun _ _ _ h => h) (Or.inl ⟨?_, ?_⟩) hH0 ?_
    rotate_left
    ·kernel_rfl
    ·(intro W' _; go_simp; (try with_reducible rfl))
    (try simp only [List.getElem_toArray, List.getElem_cons_succ, List.getElem_cons_zero, Act.put, List.setIfInBounds_toArray, List.set_cons_succ, List.set_cons_zero])
    refine wpAnyH_take (i := 4) (oi := _) (v := ?_) rfl (by kernel_rfl) (by kernel_rfl) (by kernel_rfl) (fun _ _ _ h => h) (Or.inl ⟨?_, ?_⟩) hH0 ?_
    rotate_left
    ·kernel_rfl
    ·(intro W' _; go_simp; (try with_reducible rfl))
    (try simp only [List.getElem_toArray, List.getElem_cons_succ, List.getElem_cons_zero, Act.put, List.setIfInBounds_toArray, List.set_cons_succ, List.set_cons_zero])
    refine wpAnyH_take (i := 5) (oi := _) (v := ?_) rfl (by kernel_rfl) (by kernel_rfl) (by kernel_rfl) (fun _ _ _ h => h) (Or.inl ⟨?_, ?_⟩) hH0 ?_
    rotate_left
    ·kernel_rfl
    ·(intro W' hSw; have f0 := keepc hSw c0; have f1 := keepc hSw c1; have f2 := keepc hSw c2; go_simp; (try with_reducible rfl))
    (try simp only [List.getElem_toArray, List.getElem_cons_succ, List.getElem_cons_zero, Act.put, List.setIfInBounds_toArray, List.set_cons_succ, List.set_cons_zero])
    refine wpAnyH_take (i := 6) (oi := _) (v := ?_) rfl (by kernel_rfl) (by kernel_rfl) (by kernel_rfl) (fun _ _ _ h => h) (Or.inl ⟨?_, ?_⟩) hH0 ?_
    rotate_left
    ·kernel_rfl
    ·(intro W' _; go_simp; (try with_reducible rfl))
    (try simp only [List.getElem_toArray, List.getElem_cons_succ, List.getElem_cons_zero, Act.put, List.setIfInBounds_toArray, List.set_cons_succ, List.set_cons_zero])
    refine wpAnyH_take (i := 7) (oi := _) (v := ?_) rfl (by kernel_rfl) (by kernel_rfl) (by kernel_rfl) (fun _ _ _ h => h) (Or.inl ⟨?_, ?_⟩) hH0 ?_
    rotate_left
    ·kernel_rfl
    ·(intro W' _; go_simp; (try with_reducible rfl))
    (try simp only [List.getElem_toArray, List.getElem_cons_succ, List.getElem_cons_zero, Act.put, List.setIfInBounds_toArray, List.set_cons_succ, List.set_cons_zero])
    refine wpAnyH_take (i := 8) (oi := _) (v := ?_) rfl (by kernel_rfl) (by kernel_rfl) (by kernel_rfl) (fun _ _ _ h => h) (Or.inl ⟨?_, ?_⟩) hH0 ?_
    rotate_left
    ·kernel_rfl
    ·(intro W' _; go_simp; (try with_reducible rfl))
    (try simp only [List.getElem_toArray, List.getElem_cons_succ, List.getElem_cons_zero, Act.put, List.setIfInBounds_toArray, List.set_cons_succ, List.set_cons_zero])
    refine wpAnyH_take (i := 9) (oi := _) (v := ?_) rfl (by kernel_rfl) (by kernel_rfl) (by kernel_rfl) (fun _ _ _ h => h) (Or.inl ⟨?_, ?_⟩) hH0 ?_
    rotate_left
    ·kernel_rfl
    ·(intro W' _; go_simp; (try with_reducible rfl))
    (try simp only [List.getElem_toArray, List.getElem_cons_succ, List.getElem_cons_zero, Act.put, List.setIfInBounds_toArray, List.set_cons_succ, List.set_cons_zero])
    refine wpAnyH_take (i := 10) (oi := _) (v := ?_) rfl (by kernel_rfl) (by kernel_rfl) (by kernel_rfl) (fun _ _ _ h => h) (Or.inl ⟨?_, ?_⟩) hH0 ?_
    rotate_left
    ·kernel_rfl
    ·(intro W' hSw; have f0 := keepc hSw c0; have f1 := keepc hSw c1; have f2 := keepc hSw c2; go_simp; (try with_reducible rfl))
    (try simp only [List.getElem_toArray, List.getElem_cons_succ, List.getElem_cons_zero, Act.put, List.setIfInBounds_toArray, List.set_cons_succ, List.set_cons_zero])
    refine wpAnyH_take (i := 11) (oi := _) (v := ?_) rfl (by kernel_rfl) (by kernel_rfl) (by kernel_rfl) (fun _ _ _ h => h) (Or.inl ⟨?_, ?_⟩) hH0 ?_
    rotate_left
    ·kernel_rfl
    ·(intro W' _; go_simp; (try with_reducible rfl))
    (try simp only [List.getElem_toArray, List.getElem_cons_succ, List.getElem_cons_zero, Act.put, List.setIfInBounds_toArray, List.set_cons_succ, List.set_cons_zero])
    refine wpAnyH_take (i := 12) (oi := _) (v := ?_) rfl (by kernel_rfl) (by kernel_rfl) (by kernel_rfl) (fun _ _ _ h => h) (Or.inl ⟨?_, ?_⟩) hH0 ?_
    rotate_left
    ·kernel_rfl
    ·(intro W' _; go_simp; (try with_reducible rfl))
    (try simp only [List.getElem_toArray, List.getElem_cons_succ, List.getElem_cons_zero, Act.put, List.setIfInBounds_toArray, List.set_cons_succ, List.set_cons_zero])
    refine wpAnyH_take (i := 13) (oi := _) (v := ?_) rfl (by kernel_rfl) (by kernel_rfl) (by kernel_rfl) (fun _ _ _ h => h) (Or.inl ⟨?_, ?_⟩) hH0 ?_
    rotate_left
    ·kernel_rfl
    ·(intro W' hSw; have f0 := keepc hSw c0; have f1 := keepc hSw c1; have f2 := keepc hSw c2; go_simp; (try with_reducible rfl))
    (try simp only [List.getElem_toArray, List.getElem_cons_succ, List.getElem_cons_zero, Act.put, List.setIfInBounds_toArray, List.set_cons_succ, List.set_cons_zero])
    refine wpAnyH_take (i := 14) (oi := _) (v := ?_) rfl (by kernel_rfl) (by kernel_rfl) (by kernel_rfl) (fun _ _ _ h => h) (Or.inl ⟨?_, ?_⟩) hH0 ?_
    rotate_left
    ·kernel_rfl
    ·(intro W' _; go_simp; (try with_reducible rfl))
    (try simp only [List.getElem_toArray, List.getElem_cons_succ, List.getElem_cons_zero, Act.put, List.setIfInBounds_toArray, List.set_cons_succ, List.set_cons_zero])
    refine wpAnyH_take (i := 15) (oi := _) (v := ?_) rfl (by kernel_rfl) (by kernel_rfl) (by kernel_rfl) (fun _ _ _ h => h) (Or.inl ⟨?_, ?_⟩) hH0 ?_
    rotate_left
    ·kernel_rfl
    ·(intro W' _; go_simp; (try with_reducible rfl))
    (try simp only [List.getElem_toArray, List.getElem_cons_succ, List.getElem_cons_zero, Act.put, List.setIfInBounds_toArray, List.set_cons_succ, List.set_cons_zero])
    refine wpAnyH_take (i := 16) (oi := _) (v := ?_) rfl (by kernel_rfl) (by kernel_rfl) (by kernel_rfl) (fun _ _ _ h => h) (Or.inl ⟨?_, ?_⟩) hH0 ?_
    rotate_left
    ·kernel_rfl
    ·(intro W' _; go_simp; (try with_reducible rfl))
    (try simp only [List.getElem_toArray, List.getElem_cons_succ, List.getElem_cons_zero, Act.put, List.setIfInBounds_toArray, List.set_cons_succ, List.set_cons_zero])
    refine wpAnyH_take (i := 17) (oi := _) (v := ?_) rfl (by kernel_rfl) (by kernel_rfl) (by kernel_rfl) (fun _ _ _ h => h) (Or.inl ⟨?_, ?_⟩) hH0 ?_
    rotate_left
    ·kernel_rfl
    ·(intro W' _; go_simp; (try with_reducible rfl))
    (try simp only [List.getElem_toArray, List.getElem_cons_succ, List.getElem_cons_zero, Act.put, List.setIfInBounds_toArray, List.set_cons_succ, List.set_cons_zero])
    refine wpAnyH_done (by kernel_rfl) ?_ _
    go_wp2_with fail
    go_ret2
    exact ⟨_, rfl, fun u hu => (by cases hu; rfl), hH0⟩
   ·
    have eh23 : (a2 == a3) = false := by rw [beq_eq_false_iff_ne]; exact h23
    have hv : rawO 19 [5, a2, a3] = none := by simp [rawO, iff', h23]
    rw [hv]
    clear hv
    go_enter Tryz.func94, Tryz.ntmps94
    go_wp2_with fail
    refine wp_region_held_drew (S := (fun W => Below w.heap.size w W)) (by kernel_rfl) (bdr (bref _)) (fun hH0 => ?_)
    refine wpAnyH_take (i := 0) (oi := _) (v := ?_) rfl (by kernel_rfl) (by kernel_rfl) (by kernel_rfl) (fun _ _ _ h => h) (Or.inl ⟨?_, ?_⟩) hH0 ?_
    rotate_left
    ·kernel_rfl
    ·(intro W' _; go_simp; (try with_reducible rfl))
    (try simp only [List.getElem_toArray, List.getElem_cons_zero, Act.put, List.setIfInBounds_toArray, List.set_cons_succ, List.set_cons_zero])
    refine wpAnyH_take (i := 1) (oi := _) (v := ?_) rfl (by kernel_rfl) (by kernel_rfl) (by kernel_rfl) (fun _ _ _ h => h) (Or.inl ⟨?_, ?_⟩) hH0 ?_
    rotate_left
    ·kernel_rfl
    ·(intro W' _; go_simp; (try with_reducible rfl))
    (try simp only [List.getElem_toArray, List.getElem_cons_succ, List.getElem_cons_zero, Act.put, List.setIfInBounds_toArray, List.set_cons_succ, List.set_cons_zero])
    refine wpAnyH_take (i := 2) (oi := _) (v := ?_) rfl (by kernel_rfl) (by kernel_rfl) (by kernel_rfl) (fun _ _ _ h => h) (Or.inl ⟨?_, ?_⟩) hH0 ?_
    rotate_left
    ·kernel_rfl
    ·(intro W' hSw; have f0 := keepc hSw c0; have f1 := keepc hSw c1; have f2 := keepc hSw c2; go_simp; (try with_reducible rfl))
    (try simp only [List.getElem_toArray, List.getElem_cons_succ, List.getElem_cons_zero, Act.put, List.setIfInBounds_toArray, List.set_cons_succ, List.set_cons_zero])
    refine wpAnyH_take (i := 3) (oi := _) (v := ?_) rfl (by kernel_rfl) (by kernel_rfl) (by kernel_rfl) (fun _ _ _ h => h) (Or.inl ⟨?_, ?_⟩) hH0 ?_
    rotate_left
    ·kernel_rfl
    ·(intro W' _; go_simp; (try with_reducible rfl))
    (try simp only [List.getElem_toArray, List.getElem_cons_succ, List.getElem_cons_zero, Act.put, List.setIfInBounds_toArray, List.set_cons_succ, List.set_cons_zero])
    refine wpAnyH_take (i := 4) (oi := _) (v := ?_) rfl (by kernel_rfl) (by kernel_rfl) (by kernel_rfl) (fun _ _ _ h => h) (Or.inl ⟨?_, ?_⟩) hH0 ?_
    rotate_left
    ·kernel_rfl
    ·(intro W' _; go_simp; (try with_reducible rfl))
    (try simp only [List.getElem_toArray, List.getElem_cons_succ, List.getElem_cons_zero, Act.put, List.setIfInBounds_toArray, List.set_cons_succ, List.set_cons_zero])
    refine wpAnyH_take (i := 5) (oi := _) (v := ?_) rfl (by kernel_rfl) (by kernel_rfl) (by kernel_rfl) (fun _ _ _ h => h) (Or.inl ⟨?_, ?_⟩) hH0 ?_
    rotate_left
    ·kernel_rfl
    ·(intro W' hSw; have f0 := keepc hSw c0; have f1 := keepc hSw c1; have f2 := keepc hSw c2; go_simp; (try with_reducible rfl))
    (try simp only [List.getElem_toArray, List.getElem_cons_succ, List.getElem_cons_zero, Act.put, List.setIfInBounds_toArray, List.set_cons_succ, List.set_cons_zero])
    refine wpAnyH_take (i := 6) (oi := _) (v := ?_) rfl (by kernel_rfl) (by kernel_rfl) (by kernel_rfl) (fun _ _ _ h => h) (Or.inl ⟨?_, ?_⟩) hH0 ?_
    rotate_left
    ·kernel_rfl
    ·(intro W' _; go_simp; (try with_reducible rfl))
    (try simp only [List.getElem_toArray, List.getElem_cons_succ, List.getElem_cons_zero, Act.put, List.setIfInBounds_toArray, List.set_cons_succ, List.set_cons_zero])
    refine wpAnyH_take (i := 7) (oi := _) (v := ?_) rfl (by kernel_rfl) (by kernel_rfl) (by kernel_rfl) (fun _ _ _ h => h) (Or.inl ⟨?_, ?_⟩) hH0 ?_
    rotate_left
    ·kernel_rfl
    ·(intro W' _; go_simp; (try with_reducible rfl))
    (try simp only [List.getElem_toArray, List.getElem_cons_succ, List.getElem_cons_zero, Act.put, List.setIfInBounds_toArray, List.set_cons_succ, List.set_cons_zero])
    refine wpAnyH_take (i := 8) (oi := _) (v := ?_) rfl (by kernel_rfl) (by kernel_rfl) (by kernel_rfl) (fun _ _ _ h => h) (Or.inl ⟨?_, ?_⟩) hH0 ?_
    rotate_left
    ·kernel_rfl
    ·(intro W' _; go_simp; (try with_reducible rfl))
    (try simp only [List.getElem_toArray, List.getElem_cons_succ, List.getElem_cons_zero, Act.put, List.setIfInBounds_toArray, List.set_cons_succ, List.set_cons_zero])
    refine wpAnyH_take (i := 9) (oi := _) (v := ?_) rfl (by kernel_rfl) (by kernel_rfl) (by kernel_rfl) (fun _ _ _ h => h) (Or.inl ⟨?_, ?_⟩) hH0 ?_
    rotate_left
    ·kernel_rfl
    ·(intro W' _; go_simp; (try with_reducible rfl))
    (try simp only [List.getElem_toArray, List.getElem_cons_succ, List.getElem_cons_zero, Act.put, List.setIfInBounds_toArray, List.set_cons_succ, List.set_cons_zero])
    refine wpAnyH_take (i := 10) (oi := _) (v := ?_) rfl (by kernel_rfl) (by kernel_rfl) (by kernel_rfl) (fun _ _ _ h => h) (Or.inl ⟨?_, ?_⟩) hH0 ?_
    rotate_left
    ·kernel_rfl
    ·(intro W' hSw; have f0 := keepc hSw c0; have f1 := keepc hSw c1; have f2 := keepc hSw c2; go_simp; (try with_reducible rfl))
    (try simp only [List.getElem_toArray, List.getElem_cons_succ, List.getElem_cons_zero, Act.put, List.setIfInBounds_toArray, List.set_cons_succ, List.set_cons_zero])
    refine wpAnyH_take (i := 11) (oi := _) (v := ?_) rfl (by kernel_rfl) (by kernel_rfl) (by kernel_rfl) (fun _ _ _ h => h) (Or.inl ⟨?_, ?_⟩) hH0 ?_
    rotate_left
    ·kernel_rfl
    ·(intro W' _; go_simp; (try with_reducible rfl))
    (try simp only [List.getElem_toArray, List.getElem_cons_succ, List.getElem_cons_zero, Act.put, List.setIfInBounds_toArray, List.set_cons_succ, List.set_cons_zero])
    refine wpAnyH_take (i := 12) (oi := _) (v := ?_) rfl (by kernel_rfl) (by kernel_rfl) (by kernel_rfl) (fun _ _ _ h => h) (Or.inl ⟨?_, ?_⟩) hH0 ?_
    rotate_left
    ·kernel_rfl
    ·(intro W' _; go_simp; (try with_reducible rfl))
    (try simp only [List.getElem_toArray, List.getElem_cons_succ, List.getElem_cons_zero, Act.put, List.setIfInBounds_toArray, List.set_cons_succ, List.set_cons_zero])
    refine wpAnyH_take (i := 13) (oi := _) (v := ?_) rfl (by kernel_rfl) (by kernel_rfl) (by kernel_rfl) (fun _ _ _ h => h) (Or.inl ⟨?_, ?_⟩) hH0 ?_
    rotate_left
    ·kernel_rfl
    ·(intro W' hSw; have f0 := keepc hSw c0; have f1 := keepc hSw c1; have f2 := keepc hSw c2; go_simp; (try with_reducible rfl))
    (try simp only [List.getElem_toArray, List.getElem_cons_succ, List.getElem_cons_zero, Act.put, List.setIfInBounds_toArray, List.set_cons_succ, List.set_cons_zero])
    refine wpAnyH_take (i := 14) (oi := _) (v := ?_) rfl (by kernel_rfl) (by kernel_rfl) (by kernel_rfl) (fun _ _ _ h => h) (Or.inl ⟨?_, ?_⟩) hH0 ?_
    rotate_left
    ·kernel_rfl
    ·(intro W' _; go_simp; (try with_reducible rfl))
    (try simp only [List.getElem_toArray, List.getElem_cons_succ, List.getElem_cons_zero, Act.put, List.setIfInBounds_toArray, List.set_cons_succ, List.set_cons_zero])
    refine wpAnyH_take (i := 15) (oi := _) (v := ?_) rfl (by kernel_rfl) (by kernel_rfl) (by kernel_rfl) (fun _ _ _ h => h) (Or.inl ⟨?_, ?_⟩) hH0 ?_
    rotate_left
    ·kernel_rfl
    ·(intro W' _; go_simp; (try with_reducible rfl))
    (try simp only [List.getElem_toArray, List.getElem_cons_succ, List.getElem_cons_zero, Act.put, List.setIfInBounds_toArray, List.set_cons_succ, List.set_cons_zero])
    refine wpAnyH_take (i := 16) (oi := _) (v := ?_) rfl (by kernel_rfl) (by kernel_rfl) (by kernel_rfl) (fun _ _ _ h => h) (Or.inl ⟨?_, ?_⟩) hH0 ?_
    rotate_left
    ·kernel_rfl
    ·(intro W' _; go_simp; (try with_reducible rfl))
    (try simp only [List.getElem_toArray, List.getElem_cons_succ, List.getElem_cons_zero, Act.put, List.setIfInBounds_toArray, List.set_cons_succ, List.set_cons_zero])
    refine wpAnyH_take (i := 17) (oi := _) (v := ?_) rfl (by kernel_rfl) (by kernel_rfl) (by kernel_rfl) (fun _ _ _ h => h) (Or.inl ⟨?_, ?_⟩) hH0 ?_
    rotate_left
    ·kernel_rfl
    ·(intro W' _; go_simp; (try with_reducible rfl))
    (try simp only [List.getElem_toArray, List.getElem_cons_succ, List.getElem_cons_zero, Act.put, List.setIfInBounds_toArray, List.set_cons_succ, List.set_cons_zero])
    refine wpAnyH_done (by kernel_rfl) ?_ _
    go_wp2_with fail
    go_ret2
    exact ⟨_, rfl, fun u hu => (by cases hu), hH0⟩
  ·
   have eh5 : (a == 5) = false := by rw [beq_eq_false_iff_ne]; exact h5
   have nh5 : (a != 5) = true := by rw [bne_iff_ne]; exact h5
   have hv : rawO 19 [a, a2, a3] = none := by simp [rawO, iff', h5]
   rw [hv]
   clear hv
   go_enter Tryz.func94, Tryz.ntmps94
   go_wp2_with fail
   refine wp_region_held_drew (S := (fun W => Below w.heap.size w W)) (by kernel_rfl) (bdr (bref _)) (fun hH0 => ?_)
   refine wpAnyH_take (i := 0) (oi := _) (v := ?_) rfl (by kernel_rfl) (by kernel_rfl) (by kernel_rfl) (fun _ _ _ h => h) (Or.inl ⟨?_, ?_⟩) hH0 ?_
   rotate_left
   ·kernel_rfl
   ·(intro W' _; go_simp; (try with_reducible rfl))
   (try simp only [List.getElem_toArray, List.getElem_cons_zero, Act.put, List.setIfInBounds_toArray, List.set_cons_succ, List.set_cons_zero])
   refine wpAnyH_take (i := 1) (oi := _) (v := ?_) rfl (by kernel_rfl) (by kernel_rfl) (by kernel_rfl) (fun _ _ _ h => h) (Or.inl ⟨?_, ?_⟩) hH0 ?_
   rotate_left
   ·kernel_rfl
   ·(intro W' _; go_simp; (try with_reducible rfl))
   (try simp only [List.getElem_toArray, List.getElem_cons_succ, List.getElem_cons_zero, Act.put, List.setIfInBounds_toArray, List.set_cons_succ, List.set_cons_zero])
   refine wpAnyH_take (i := 2) (oi := _) (v := ?_) rfl (by kernel_rfl) (by kernel_rfl) (by kernel_rfl) (fun _ _ _ h => h) (Or.inl ⟨?_, ?_⟩) hH0 ?_
   rotate_left
   ·kernel_rfl
   ·(intro W' hSw; have f0 := keepc hSw c0; have f1 := keepc hSw c1; have f2 := keepc hSw c2; go_simp; (try with_reducible rfl))
   (try simp only [List.getElem_toArray, List.getElem_cons_succ, List.getElem_cons_zero, Act.put, List.setIfInBounds_toArray, List.set_cons_succ, List.set_cons_zero])
   refine wpAnyH_take (i := 3) (oi := _) (v := ?_) rfl (by kernel_rfl) (by kernel_rfl) (by kernel_rfl) (fun _ _ _ h => h) (Or.inl ⟨?_, ?_⟩) hH0 ?_
   rotate_left
   ·kernel_rfl
   ·(intro W' _; go_simp; (try with_reducible rfl))
   (try simp only [List.getElem_toArray, List.getElem_cons_succ, List.getElem_cons_zero, Act.put, List.setIfInBounds_toArray, List.set_cons_succ, List.set_cons_zero])
   refine wpAnyH_take (i := 4) (oi := _) (v := ?_) rfl (by kernel_rfl) (by kernel_rfl) (by kernel_rfl) (fun _ _ _ h => h) (Or.inl ⟨?_, ?_⟩) hH0 ?_
   rotate_left
   ·kernel_rfl
   ·(intro W' _; go_simp; (try with_reducible rfl))
   (try simp only [List.getElem_toArray, List.getElem_cons_succ, List.getElem_cons_zero, Act.put, List.setIfInBounds_toArray, List.set_cons_succ, List.set_cons_zero])
   refine wpAnyH_take (i := 5) (oi := _) (v := ?_) rfl (by kernel_rfl) (by kernel_rfl) (by kernel_rfl) (fun _ _ _ h => h) (Or.inl ⟨?_, ?_⟩) hH0 ?_
   rotate_left
   ·kernel_rfl
   ·(intro W' hSw; have f0 := keepc hSw c0; have f1 := keepc hSw c1; have f2 := keepc hSw c2; go_simp; (try with_reducible rfl))
   (try simp only [List.getElem_toArray, List.getElem_cons_succ, List.getElem_cons_zero, Act.put, List.setIfInBounds_toArray, List.set_cons_succ, List.set_cons_zero])
   refine wpAnyH_take (i := 6) (oi := _) (v := ?_) rfl (by kernel_rfl) (by kernel_rfl) (by kernel_rfl) (fun _ _ _ h => h) (Or.inl ⟨?_, ?_⟩) hH0 ?_
   rotate_left
   ·kernel_rfl
   ·(intro W' _; go_simp; (try with_reducible rfl))
   (try simp only [List.getElem_toArray, List.getElem_cons_succ, List.getElem_cons_zero, Act.put, List.setIfInBounds_toArray, List.set_cons_succ, List.set_cons_zero])
   refine wpAnyH_take (i := 7) (oi := _) (v := ?_) rfl (by kernel_rfl) (by kernel_rfl) (by kernel_rfl) (fun _ _ _ h => h) (Or.inl ⟨?_, ?_⟩) hH0 ?_
   rotate_left
   ·kernel_rfl
   ·(intro W' _; go_simp; (try with_reducible rfl))
   (try simp only [List.getElem_toArray, List.getElem_cons_succ, List.getElem_cons_zero, Act.put, List.setIfInBounds_toArray, List.set_cons_succ, List.set_cons_zero])
   refine wpAnyH_take (i := 8) (oi := _) (v := undef) rfl (by kernel_rfl) (by kernel_rfl) (by kernel_rfl) (fun _ _ _ h => h) (Or.inr ⟨?_, rfl⟩) hH0 ?_
   ·kernel_rfl
   (try simp only [List.getElem_toArray, List.getElem_cons_succ, List.getElem_cons_zero, Act.put, List.setIfInBounds_toArray, List.set_cons_succ, List.set_cons_zero])
   refine wpAnyH_take (i := 9) (oi := _) (v := undef) rfl (by kernel_rfl) (by kernel_rfl) (by kernel_rfl) (fun _ _ _ h => h) (Or.inr ⟨?_, rfl⟩) hH0 ?_
   ·kernel_rfl
   (try simp only [List.getElem_toArray, List.getElem_cons_succ, List.getElem_cons_zero, Act.put, List.setIfInBounds_toArray, List.set_cons_succ, List.set_cons_zero])
   refine wpAnyH_take (i := 10) (oi := _) (v := undef) rfl (by kernel_rfl) (by kernel_rfl) (by kernel_rfl) (fun _ _ _ h => h) (Or.inr ⟨?_, rfl⟩) hH0 ?_
   ·kernel_rfl
   (try simp only [List.getElem_toArray, List.getElem_cons_succ, List.getElem_cons_zero, Act.put, List.setIfInBounds_toArray, List.set_cons_succ, List.set_cons_zero])
   refine wpAnyH_take (i := 11) (oi := _) (v := undef) rfl (by kernel_rfl) (by kernel_rfl) (by kernel_rfl) (fun _ _ _ h => h) (Or.inr ⟨?_, rfl⟩) hH0 ?_
   ·kernel_rfl
   (try simp only [List.getElem_toArray, List.getElem_cons_succ, List.getElem_cons_zero, Act.put, List.setIfInBounds_toArray, List.set_cons_succ, List.set_cons_zero])
   refine wpAnyH_take (i := 12) (oi := _) (v := undef) rfl (by kernel_rfl) (by kernel_rfl) (by kernel_rfl) (fun _ _ _ h => h) (Or.inr ⟨?_, rfl⟩) hH0 ?_
   ·kernel_rfl
   (try simp only [List.getElem_toArray, List.getElem_cons_succ, List.getElem_cons_zero, Act.put, List.setIfInBounds_toArray, List.set_cons_succ, List.set_cons_zero])
   refine wpAnyH_take (i := 13) (oi := _) (v := undef) rfl (by kernel_rfl) (by kernel_rfl) (by kernel_rfl) (fun _ _ _ h => h) (Or.inr ⟨?_, rfl⟩) hH0 ?_
   ·kernel_rfl
   (try simp only [List.getElem_toArray, List.getElem_cons_succ, List.getElem_cons_zero, Act.put, List.setIfInBounds_toArray, List.set_cons_succ, List.set_cons_zero])
   refine wpAnyH_take (i := 14) (oi := _) (v := undef) rfl (by kernel_rfl) (by kernel_rfl) (by kernel_rfl) (fun _ _ _ h => h) (Or.inr ⟨?_, rfl⟩) hH0 ?_
   ·kernel_rfl
   (try simp only [List.getElem_toArray, List.getElem_cons_succ, List.getElem_cons_zero, Act.put, List.setIfInBounds_toArray, List.set_cons_succ, List.set_cons_zero])
   refine wpAnyH_take (i := 15) (oi := _) (v := ?_) rfl (by kernel_rfl) (by kernel_rfl) (by kernel_rfl) (fun _ _ _ h => h) (Or.inl ⟨?_, ?_⟩) hH0 ?_
   rotate_left
   ·kernel_rfl
   ·(intro W' _; go_simp; (try with_reducible rfl))
   (try simp only [List.getElem_toArray, List.getElem_cons_succ, List.getElem_cons_zero, Act.put, List.setIfInBounds_toArray, List.set_cons_succ, List.set_cons_zero])
   refine wpAnyH_take (i := 16) (oi := _) (v := ?_) rfl (by kernel_rfl) (by kernel_rfl) (by kernel_rfl) (fun _ _ _ h => h) (Or.inl ⟨?_, ?_⟩) hH0 ?_
   rotate_left
   ·kernel_rfl
   ·(intro W' _; go_simp; (try with_reducible rfl))
   (try simp only [List.getElem_toArray, List.getElem_cons_succ, List.getElem_cons_zero, Act.put, List.setIfInBounds_toArray, List.set_cons_succ, List.set_cons_zero])
   refine wpAnyH_take (i := 17) (oi := _) (v := ?_) rfl (by kernel_rfl) (by kernel_rfl) (by kernel_rfl) (fun _ _ _ h => h) (Or.inl ⟨?_, ?_⟩) hH0 ?_
   rotate_left
   ·kernel_rfl
   ·(intro W' _; go_simp; (try with_reducible rfl))
   (try simp only [List.getElem_toArray, List.getElem_cons_succ, List.getElem_cons_zero, Act.put, List.setIfInBounds_toArray, List.set_cons_succ, List.set_cons_zero])
   refine wpAnyH_done (by kernel_rfl) ?_ _
   go_wp2_with fail
   go_ret2
   exact ⟨_, rfl, fun u hu => (by cases hu), hH0⟩
 have eh19 : (o == 19) = false := by rw [beq_eq_false_iff_ne]; exact h19
 have hv : rawO o [a, a2, a3] = none := by simp [rawO, h19]
 rw [hv]
 clear hv
 by_cases h9 : o = 9
 ·subst h9
  go_enter Tryz.func94, Tryz.ntmps94
  go_wp2_with fail
  go_ret2
  exact ⟨_, rfl, fun u hu => (by cases hu), bref _⟩
 have eh9 : (o == 9) = false := by rw [beq_eq_false_iff_ne]; exact h9
 by_cases h16 : o = 16
 ·subst h16
  go_enter Tryz.func94, Tryz.ntmps94
  go_wp2_with fail
  go_ret2
  exact ⟨_, rfl, fun u hu => (by cases hu), bref _⟩
 have eh16 : (o == 16) = false := by rw [beq_eq_false_iff_ne]; exact h16
 go_enter Tryz.func94, Tryz.ntmps94
 go_wp2_with fail
 go_ret2
 exact ⟨_, rfl, fun u hu => (by cases hu), bref _⟩

theorem rresult (o : Int) (l : List Int) (ao : Option Addr) (cap : Nat) (w : World) (h : IntsAt ao l w) (h3 : l.length ≤ 3) : Calls Tryz.prog 94 #[.int .i64 o, .slice ao l.length cap] w fun r w' => ∃ v, r = .returned (.tuple #[.int .i64 v, .bool (rawO o l).isSome]) ∧ (∀ u, rawO o l = some u → v = u) ∧ Below w.heap.size w w' := by
 match l, h, h3 with
 | [], _, _ => exact rres0 o ao cap w
 | [a], h, _ => exact rres1 o a ao cap w h
 | [a, a2], h, _ => exact rres2 o a a2 ao cap w h
 | [a, a2, a3], h, _ => exact rres3 o a a2 a3 ao cap w h
 | _ :: _ :: _ :: _ :: _, _, h3 => exact absurd h3 (by simp)

end Go.Proofs.YthanoilbcdhbkaaGreatDoor
