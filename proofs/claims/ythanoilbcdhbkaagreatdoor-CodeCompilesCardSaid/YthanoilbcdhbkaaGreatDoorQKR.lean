/-
  The law's guards: few, level, small.
-/
import Derived.Test.YthanoilbcdhbkaaGreatDoorQH
namespace Go.Proofs.YthanoilbcdhbkaaGreatDoor
open Go Go.RowKit Go.Lib Go.Shelf WM TM EM YM

/-! ### level -/
def levB : Nat → Ex → Bool
 | 0, _ => false
 | n + 1, e => (decide (e.args.length ≤ 8) && decide (e.s.length ≤ 40)) && e.args.all (levB n)
def levN : Nat → Nat
 | 0 => 0
 | n + 1 => 1 + 8 * levN n
theorem lev_sizs {M : Nat} : ∀ l : List Ex, (∀ x ∈ l, siz x ≤ M) → sizs l ≤ l.length * M := by
 intro l
 induction l with
 | nil => intro _; rw [sizs_nil]; simp
 | cons x l ih =>
  intro h
  rw [sizs_cons, List.length_cons, Nat.add_mul]
  have k1 := h x (by simp)
  have k2 := ih fun y hy => h y (by simp [hy])
  omega
theorem lev_siz : ∀ (n : Nat) (e : Ex), levB n e = true → siz e ≤ levN n := by
 intro n
 induction n with
 | zero => intro e h; cases h
 | succ n ih =>
  intro e h
  unfold levB at h
  simp only [Bool.and_eq_true, decide_eq_true_eq, List.all_eq_true] at h
  have k1 := lev_sizs e.args (fun x hx => ih x (h.2 x hx))
  have k2 := Nat.mul_le_mul_right (levN n) h.1.1
  rw [siz_eq, levN]
  omega
theorem lev20 {e : Ex} (h : levB 20 e = true) : siz e ≤ 4000000000000000000 := Nat.le_trans (lev_siz 20 e h) (by decide)
set_option maxRecDepth 100000 in
set_option maxHeartbeats 4000000 in
theorem llevel : ∀ (m : Nat), m ≤ 20 → ∀ (e : Ex) (so : Option Addr) (cap : Nat) (w : World), ExprsAt so e.args w →
  Calls Tryz.prog 27 #[.agg #[.int .i64 e.op, .int .i64 e.n, .string (str e.s), .slice so e.args.length cap], .int .i64 (m : Int)] w fun r w' => r = .returned (.bool (levB m e)) ∧ Below w.heap.size w w' := by
 intro m
 induction m with
 | zero =>
  intro _ e so cap w _
  rw [show levB 0 e = false from rfl]
  go_enter Tryz.func27, Tryz.ntmps27
  go_wp2_with fail
  go_ret
  exact ⟨rfl, by repeat (first | exact bref _ | refine bdr ?_ | refine bal ?_ _)⟩
 | succ m ih =>
  intro hm e so cap w h
  have HE := Lib.hid h
  have HL : Hid (levB (m + 1) e = ((decide (e.args.length ≤ 8) && decide (e.s.length ≤ 40)) && e.args.all (levB m))) := Lib.hid rfl
  obtain ⟨R, hR⟩ : ∃ R, levB (m + 1) e = R := ⟨_, rfl⟩
  rw [hR] at HL ⊢
  obtain ⟨X, hX⟩ : ∃ X, str e.s = X := ⟨_, rfl⟩
  have hXs : e.s.length = X.size := by rw [← hX, str_size]
  rw [hXs] at HL
  obtain ⟨a, ha⟩ : ∃ a, e.args = a := ⟨_, rfl⟩
  rw [ha] at HE HL
  obtain ⟨n, hn⟩ : ∃ n, a.length = n := ⟨_, rfl⟩
  rw [hn] at HL
  rw [hX, ha, hn]
  have HN := Lib.hid hn
  have IH := Lib.hid (ih (by omega))
  have hm0 : ¬ ((m : Int) + 1 = 0) := by omega
  have hmb : (((m : Int) + 1) == 0) = false := beq_no hm0
  clear h hR hX hXs ha hn ih
  by_cases h1 : n ≤ 8
  rotate_left
  ·have z1 : (8 : Int) < (n : Int) := by omega
   have hr : R = false := by rw [HL.out, decide_eq_false h1]; rfl
   subst hr
   clear h1
   go_enter Tryz.func27, Tryz.ntmps27
   go_wp2_with fail
   go_ret
   exact ⟨rfl, by repeat (first | exact bref _ | refine bdr ?_ | refine bal ?_ _)⟩
  have z1 : ¬ ((8 : Int) < (n : Int)) := by omega
  by_cases h2 : X.size ≤ 40
  rotate_left
  ·have z2 : (40 : Int) < (X.size : Int) := by omega
   have hr : R = false := by rw [HL.out, decide_eq_true h1, decide_eq_false h2]; rfl
   subst hr
   clear h1 h2
   go_enter Tryz.func27, Tryz.ntmps27
   go_wp2_with fail
   go_ret
   exact ⟨rfl, by repeat (first | exact bref _ | refine bdr ?_ | refine bal ?_ _)⟩
  have z2 : ¬ ((40 : Int) < (X.size : Int)) := by omega
  have HR : Hid (R = a.all (levB m)) := Lib.hid (by rw [HL.out, decide_eq_true h1, decide_eq_true h2]; rfl)
  have hwm : wrap64 ((m : Int) + 1 - 1) = (m : Int) := by unfold wrap64; omega
  have hwm2 : wrap64 (m : Int) = (m : Int) := by unfold wrap64; omega
  clear h2 HL
  go_enter Tryz.func27, Tryz.ntmps27
  go_wp2_with fail
  go_loopw [5] (fun i wr => ∃ (k : Nat), k ≤ n ∧ i = .int .i64 k ∧ (a.take k).all (levB m) = true ∧ wr.cell? ⟨w.heap.size, 3, none⟩ = some (.slice so n cap) ∧ Below w.heap.size w wr) (fun i _ => n - (RowKit.intOf i).toNat)
  case atStart => exact ⟨0, by omega, rfl, rfl, by simp [go_sem], by repeat (first | exact bref _ | refine bdr ?_ | refine bal ?_ _)⟩
  case round =>
   obtain ⟨k, hk, rfl, hq, x3, hB⟩ := hrel
   have HQ := Lib.hid hq
   have HB := Lib.hid hB
   clear hq hB
   by_cases hlt : k < n
   ·have hkz : (k : Int) < (n : Int) := by omega
    have g1 : k < a.length := by rw [HN.out]; exact hlt
    obtain ⟨b, off, so2, cap2, rfl, hbl, c0, c1, c2, c3, hE2, _⟩ := (HE.out.keep HB.out).at k g1
    have ht := take_g E0 a k g1
    have hmem := getD_mem'' E0 a k g1
    have C0 := Lib.hid (IH.out (a.getD k E0) so2 cap2 wr hE2)
    obtain ⟨x, hx⟩ : ∃ x, a.getD k E0 = x := ⟨_, rfl⟩
    rw [hx] at c0 c1 c2 c3 C0 ht hmem
    obtain ⟨Q, hQ⟩ : ∃ Q, levB m x = Q := ⟨_, rfl⟩
    rw [hQ] at C0
    cases Q with
    | false =>
     have hr : R = false := by rw [HR.out, List.all_eq_false]; exact ⟨x, hmem, by rw [hQ]; decide⟩
     subst hr
     clear hx hE2 hQ ht hmem g1
     go_wp2_with fail
     refine C0.out.mono ?_
     rintro r w1 ⟨rfl, hb1⟩
     have HB1 := Lib.hid (btr HB.out hb1)
     clear hb1
     go_wp2_with fail
     go_ret
     exact ⟨rfl, HB1.out⟩
    | true =>
     have HQ2 := Lib.hid (show (a.take (k + 1)).all (levB m) = true by rw [ht, List.all_append, HQ.out]; simp [hQ])
     clear hx hE2 hQ ht hmem g1
     go_wp2_with fail
     refine C0.out.mono ?_
     rintro r w1 ⟨rfl, hb1⟩
     replace x3 := keepc hb1 x3
     have HB1 := Lib.hid (btr HB.out hb1)
     clear hb1
     go_wp2_with fail
     go_roundw
     case rel => exact ⟨k + 1, by omega, by go_num, HQ2.out, x3, HB1.out⟩
     case measure => simp [RowKit.intOf]; omega
   ·have he : k = n := by omega
    subst he
    have hr : R = true := by
     rw [HR.out]
     have := HQ.out
     rwa [← HN.out, List.take_length] at this
    subst hr
    go_wp2_with fail
    go_ret
    exact ⟨rfl, HB.out⟩
def smallB (e : Ex) : Bool := levB 20 e && decide (siz e ≤ 150)
theorem small_siz {e : Ex} (h : smallB e = true) : siz e ≤ 150 := by unfold smallB at h; rw [Bool.and_eq_true, decide_eq_true_eq] at h; exact h.2
set_option maxRecDepth 100000 in
theorem lsmall (e : Ex) (so : Option Addr) (cap : Nat) (w : World) (h : ExprsAt so e.args w) :
  Calls Tryz.prog 10 #[.agg #[.int .i64 e.op, .int .i64 e.n, .string (str e.s), .slice so e.args.length cap]] w fun r w' => r = .returned (.bool (smallB e)) ∧ Below w.heap.size w w' := by
 unfold smallB
 have LV := Lib.hid (fun W (hW : Below w.heap.size w W) => llevel 20 (by omega) e so cap W (h.keep hW))
 have ND := Lib.hid (fun W (hW : Below w.heap.size w W) (hs : siz e ≤ 4000000000000000000) => rnodes e so cap W hs (h.keep hW))
 have L20 := Lib.hid (lev20 (e := e))
 obtain ⟨Q, hQ⟩ : ∃ Q, levB 20 e = Q := ⟨_, rfl⟩
 rw [hQ] at LV L20 ⊢
 obtain ⟨z, hz⟩ : ∃ z, siz e = z := ⟨_, rfl⟩
 rw [hz] at ND L20 ⊢
 obtain ⟨eo, heo⟩ : ∃ q, e.op = q := ⟨_, rfl⟩
 obtain ⟨en, hen⟩ : ∃ q, e.n = q := ⟨_, rfl⟩
 obtain ⟨es, hes⟩ : ∃ q, str e.s = q := ⟨_, rfl⟩
 obtain ⟨el, hel⟩ : ∃ q, e.args.length = q := ⟨_, rfl⟩
 rw [heo, hen, hes, hel] at LV ND ⊢
 have HB0 := Lib.hid (show Below w.heap.size w (w.alloc (.cells #[.int .i64 eo, .int .i64 en, .string es, .slice so el cap] 24)) from bal (bref w) _)
 clear h hQ hz heo hen hes hel
 cases Q with
 | false =>
  rw [Bool.false_and]
  go_enter Tryz.func10, Tryz.ntmps10
  go_wp2_with fail
  refine (LV.out _ HB0.out).mono ?_
  rintro r w1 ⟨rfl, hb1⟩
  have HB1 := Lib.hid (btr HB0.out hb1)
  clear hb1
  go_wp2_with fail
  go_ret
  exact ⟨rfl, HB1.out⟩
 | true =>
  rw [Bool.true_and]
  have hz20 := L20.out rfl
  go_enter Tryz.func10, Tryz.ntmps10
  go_wp2_with fail
  refine (LV.out _ HB0.out).mono ?_
  rintro r w1 ⟨rfl, hb1⟩
  have b0 := keepc hb1 (show (w.alloc (.cells #[.int .i64 eo, .int .i64 en, .string es, .slice so el cap] 24)).cell? ⟨w.heap.size, 0, none⟩ = some (.int .i64 eo) by simp [go_sem])
  have b1 := keepc hb1 (show (w.alloc (.cells #[.int .i64 eo, .int .i64 en, .string es, .slice so el cap] 24)).cell? ⟨w.heap.size, 1, none⟩ = some (.int .i64 en) by simp [go_sem])
  have b2 := keepc hb1 (show (w.alloc (.cells #[.int .i64 eo, .int .i64 en, .string es, .slice so el cap] 24)).cell? ⟨w.heap.size, 2, none⟩ = some (.string es) by simp [go_sem])
  have b3 := keepc hb1 (show (w.alloc (.cells #[.int .i64 eo, .int .i64 en, .string es, .slice so el cap] 24)).cell? ⟨w.heap.size, 3, none⟩ = some (.slice so el cap) by simp [go_sem])
  have HB1 := Lib.hid (btr HB0.out hb1)
  clear hb1
  go_wp2_with fail
  refine (ND.out _ HB1.out hz20).mono ?_
  rintro r w2 ⟨rfl, hb2⟩
  have HB2 := Lib.hid (btr HB1.out hb2)
  clear hb2
  by_cases hq : z ≤ 150
  ·have hqz : (z : Int) ≤ 150 := by omega
   go_wp2_with fail
   go_ret
   exact ⟨by first | rfl | simp [hq], HB2.out⟩
  ·have hqz : ¬ ((z : Int) ≤ 150) := by omega
   go_wp2_with fail
   go_ret
   exact ⟨by first | rfl | simp [hqz, hq], HB2.out⟩
end Go.Proofs.YthanoilbcdhbkaaGreatDoor
