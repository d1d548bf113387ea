/-
  Contracts of the document's own Int and Cmp.
-/
import Derived.Test.YtjhfbnndapopgaaDoorRefB
namespace Go.Proofs.YtjhfbnndapopgaaDoor
open Go Go.RowKit WM
attribute [local go_sem ↓] Go.wp_at_zero Go.wp_at_succ

set_option maxRecDepth 100000 in
theorem rint_any (a l : Int) (hh : I64 a) (hl : U64 l) (w : World) :
    Calls Tryd.prog 39 #[.agg #[.int .i64 a, .int .u64 l]] w fun e w' =>
      e = .returned (.tuple #[.int .i64 (toInt (val a l)), .bool (isInt (val a l))]) ∧ Below w.heap.size w w' := by
  have ew : IntKind.i64.wrap l = wrap64 l := by rw [IntKind.wrap_i64]; unfold wrap64; omega
  have hw : I64 (IntKind.i64.wrap l) := by rw [ew]; exact wrap64_I64 l
  cases hi : isInt (val a l)
  · have H1 : Hid (toInt (val a l) = 0) := Lib.hid (by simp [toInt, hi])
    have hno := int_no hh hl hi
    rw [← ew] at hno
    rcases hno with e1 | ⟨e1, e2⟩
    all_goals
      clear hi ew
      go_enter Tryd.func39, Tryd.ntmps39
      go_wp2_with fail
      go_region_held3 (fun w' => w'.cell? ⟨w.heap.size, 0, none⟩ = some (.int .i64 a) ∧ w'.cell? ⟨w.heap.size, 1, none⟩ = some (.int .u64 l)) (go_keep) ((go_at_call 28; refine (rof_any _ hw _).mono ?_; rintro e w1 ⟨rfl, hb⟩; obtain ⟨hc, hf⟩ := bcell hb; have hs := hb.size))
      go_wp2_with fail
      go_ret2
      exact ⟨by rw [H1.out]; rfl, btr (bdr (bal (bref _) _)) hb⟩
  · obtain ⟨e0, e1, e2⟩ := int_yes hh hl hi
    have H1 : Hid (toInt (val a l) = wrap64 l) := Lib.hid (by simp [toInt, hi, e0])
    rw [← ew] at e1 e2
    clear hi e0 ew
    go_enter Tryd.func39, Tryd.ntmps39
    go_wp2_with fail
    go_region_held3 (fun w' => w'.cell? ⟨w.heap.size, 0, none⟩ = some (.int .i64 a) ∧ w'.cell? ⟨w.heap.size, 1, none⟩ = some (.int .u64 l)) (go_keep) ((go_at_call 28; refine (rof_any _ hw _).mono ?_; rintro e w1 ⟨rfl, hb⟩; obtain ⟨hc, hf⟩ := bcell hb; have hs := hb.size))
    go_wp2_with fail
    go_ret2
    exact ⟨by rw [H1.out]; rfl, btr (bdr (bal (bref _) _)) hb⟩

theorem rcmp_any (ha la hb lb : Int) (h2 : U64 la) (h4 : U64 lb) (w : World) :
    Calls Tryd.prog 27 #[.agg #[.int .i64 ha, .int .u64 la], .agg #[.int .i64 hb, .int .u64 lb]] w fun e w' =>
      e = .returned (.int .i64 (cmpW (val ha la) (val hb lb))) ∧ Below w.heap.size w w' := by
  have key : (ha = hb ∧ la = lb ∧ cmpW (val ha la) (val hb lb) = 0) ∨ ((ha < hb) ∧ cmpW (val ha la) (val hb lb) = -1) ∨ ((ha = hb ∧ la < lb) ∧ cmpW (val ha la) (val hb lb) = -1) ∨ ((ha = hb ∧ lb < la) ∧ cmpW (val ha la) (val hb lb) = 1) ∨ (hb < ha ∧ cmpW (val ha la) (val hb lb) = 1) := by
    unfold cmpW val U64 at *
    split <;> (try split) <;> omega
  rcases key with ⟨e1, e2, e3⟩ | ⟨e1, e3⟩ | ⟨⟨e1, e2⟩, e3⟩ | ⟨⟨e1, e2⟩, e3⟩ | ⟨e1, e3⟩
  · have H := Lib.hid e3
    subst e1 e2
    clear e3
    go_enter Tryd.func27, Tryd.ntmps27
    go_wp2_with fail
    go_ret
    exact ⟨by rw [H.out]; rfl, by repeat (first | exact bref _ | refine bal ?_ _)⟩
  · have H := Lib.hid e3
    have n1 : (ha == hb) = false := by rw [beq_eq_false_iff_ne]; omega
    clear e3
    go_enter Tryd.func27, Tryd.ntmps27
    go_wp2_with fail
    go_ret
    exact ⟨by rw [H.out]; rfl, by repeat (first | exact bref _ | refine bal ?_ _)⟩
  · have H := Lib.hid e3
    subst e1
    have n1 : (la == lb) = false := by rw [beq_eq_false_iff_ne]; omega
    clear e3
    go_enter Tryd.func27, Tryd.ntmps27
    go_wp2_with fail
    go_ret
    exact ⟨by rw [H.out]; rfl, by repeat (first | exact bref _ | refine bal ?_ _)⟩
  · have H := Lib.hid e3
    subst e1
    have n1 : (la == lb) = false := by rw [beq_eq_false_iff_ne]; omega
    have n2 : decide (la < lb) = false := by simp; omega
    clear e3
    go_enter Tryd.func27, Tryd.ntmps27
    go_wp2_with fail
    go_ret
    exact ⟨by rw [H.out]; rfl, by repeat (first | exact bref _ | refine bal ?_ _)⟩
  · have H := Lib.hid e3
    have n1 : (ha == hb) = false := by rw [beq_eq_false_iff_ne]; omega
    have n2 : decide (ha < hb) = false := by simp; omega
    clear e3
    go_enter Tryd.func27, Tryd.ntmps27
    go_wp2_with fail
    go_ret
    exact ⟨by rw [H.out]; rfl, by repeat (first | exact bref _ | refine bal ?_ _)⟩
end Go.Proofs.YtjhfbnndapopgaaDoor
