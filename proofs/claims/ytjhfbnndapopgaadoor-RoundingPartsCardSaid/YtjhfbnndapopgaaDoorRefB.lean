/-
  The contract of the document's own Join: the number with a sign and a magnitude, and whether there is one.
-/
import Derived.Test.YtjhfbnndapopgaaDoorRefA
import Derived.Deep.RegionHeld3
import Derived.Deep.DrawnRows
namespace Go.Proofs.YtjhfbnndapopgaaDoor
open Go Go.RowKit WM
attribute [local go_sem ↓] Go.wp_at_zero Go.wp_at_succ

namespace WM
def jM (b : Bool) (v : Int) : Int := if b then negM v else v
def jH (b : Bool) (v : Int) : Int := IntKind.i64.wrap (mH (jM b v))
def jL (b : Bool) (v : Int) : Int := mL (jM b v)
theorem j_fits {b : Bool} {v : Int} (h0 : 0 ≤ v) (h1 : v < 340282366920938463463374607431768211456) (h : inW (signed b v) = true) : jH b v = wH (signed b v) ∧ jL b v = wL (signed b v) := by
  rw [wH_in h, wL_in h]
  rw [inW_iff] at h
  unfold jH jL
  rw [IntKind.wrap_i64]
  cases b
  · have e1 : signed false v = v := by simp [signed]
    have e2 : jM false v = v := by simp [jM]
    rw [e1] at h ⊢
    rw [e2]
    unfold mH mL
    omega
  · have e1 : signed true v = -v := by simp [signed]
    have e2 : jM true v = negM v := by simp [jM]
    rw [e1] at h ⊢
    rw [e2]
    unfold mH mL negM
    omega
end WM

set_option maxHeartbeats 4000000 in
theorem rjoin_any (b : Bool) (a l : Int) (hh : U64 a) (hl : U64 l) (w : World) :
    Calls Tryd.prog 63 #[.bool b, .agg #[.int .u64 a, .int .u64 l]] w fun e w' =>
      e = .returned (.tuple #[.agg #[.int .i64 (jH b (val a l)), .int .u64 (jL b (val a l))], .bool (inW (signed b (val a l)))]) ∧ Below w.heap.size w w' := by
  cases b
  · go_enter Tryd.func63, Tryd.ntmps63
    go_wp2_with fail
    go_region_held3 (fun w' => w'.cell? ⟨w.heap.size, 0, none⟩ = some (.int .u64 a) ∧ w'.cell? ⟨w.heap.size, 1, none⟩ = some (.int .u64 l)) (go_keep) (fail)
    all_goals go_wp2_with fail
    all_goals
      refine bodyPost_ret (v := .tuple #[.agg #[.int .i64 (jH false (val a l)), .int .u64 (jL false (val a l))], .bool (inW (signed false (val a l)))]) (by
        simp only [results, Tryd.results63, go_sem]
        simp [go_sem, jH, jL, jM, inW, signed, IntKind.wrap_i64]
        unfold mH mL val U64 at *
        refine ⟨⟨?_, ?_⟩, ?_⟩
        · omega
        · omega
        · rw [Bool.eq_iff_iff]; simp only [Bool.and_eq_true, decide_eq_true_eq]; omega) rfl ⟨rfl, ?_⟩
    all_goals (repeat (first | exact bref _ | refine bdr ?_ | refine bal ?_ _ | refine bset ?_ (by simp; done) _))
  · have x2 := u64_not l hl
    have x1 := u64_not a hh
    have X1 := Lib.hid x1; have X2 := Lib.hid x2
    clear x1 x2
    have h3 : a < 9223372036854775808 ∨ (a = 9223372036854775808 ∧ l = 0) ∨ (a = 9223372036854775808 ∧ ¬ l = 0) ∨ 9223372036854775808 < a := by omega
    rcases h3 with h1 | ⟨h1, h2⟩ | ⟨h1, h2⟩ | h1
    · have hd : decide (a < 9223372036854775808) = true := by simpa using h1
      have H1 := Lib.hid h1
      clear h1
      go_enter Tryd.func63, Tryd.ntmps63
      go_wp2_with fail
      go_quiet (fail)
      go_wp2_with fail
      all_goals (rename_i c K0 a0; simp only [u64_unsigned, Bool.false_eq_true, if_false, X2.out, IntKind.wrap_u64, beq_iff_eq, beq_eq_false_iff_ne, ne_eq] at c)
      all_goals have C := Lib.hid c
      all_goals clear c
      all_goals go_region
      all_goals go_wp2_with fail
      all_goals
        refine bodyPost_ret (v := .tuple #[.agg #[.int .i64 (jH true (val a l)), .int .u64 (jL true (val a l))], .bool (inW (signed true (val a l)))]) (by
          have c := C.out
          have hq := H1.out
          simp only [results, Tryd.results63, go_sem]
          simp [go_sem, jH, jL, jM, inW, signed, IntKind.wrap_i64, IntKind.wrap_u64, X1.out, X2.out]
          unfold negM mH mL val U64 at *
          try unfold wrap64
          refine ⟨⟨?_, ?_⟩, ?_⟩
          · omega
          · omega
          · first | omega | (rw [Bool.eq_iff_iff]; simp only [Bool.and_eq_true, decide_eq_true_eq]; omega)) rfl ⟨rfl, ?_⟩
      all_goals (repeat (first | exact bref _ | refine bdn ?_ _ | refine bdr ?_ | refine bal ?_ _ | refine bset ?_ (by simp; done) _))
    · have hd : decide (a < 9223372036854775808) = false := by simp; omega
      have hd2 : (a == 9223372036854775808) = true := by simpa using h1
      have hd3 : (l == 0) = true := by simpa using h2
      have H1 := Lib.hid (And.intro h1 h2)
      clear h1 h2
      go_enter Tryd.func63, Tryd.ntmps63
      go_wp2_with fail
      go_quiet (fail)
      go_wp2_with fail
      all_goals (rename_i c K0 a0; simp only [u64_unsigned, Bool.false_eq_true, if_false, X2.out, IntKind.wrap_u64, beq_iff_eq, beq_eq_false_iff_ne, ne_eq] at c)
      all_goals have C := Lib.hid c
      all_goals clear c
      all_goals go_region_held3 (fun w' => w'.cell? ⟨w.heap.size, 0, none⟩ = some (.int .u64 a) ∧ w'.cell? ⟨w.heap.size, 1, none⟩ = some (.int .u64 l)) (go_keep) (fail)
      all_goals go_wp2_with fail
      all_goals
        refine bodyPost_ret (v := .tuple #[.agg #[.int .i64 (jH true (val a l)), .int .u64 (jL true (val a l))], .bool (inW (signed true (val a l)))]) (by
          have c := C.out
          have hq := H1.out
          simp only [results, Tryd.results63, go_sem]
          simp [go_sem, jH, jL, jM, inW, signed, IntKind.wrap_i64, IntKind.wrap_u64, X1.out, X2.out]
          unfold negM mH mL val U64 at *
          try unfold wrap64
          refine ⟨⟨?_, ?_⟩, ?_⟩
          · omega
          · omega
          · first | omega | (rw [Bool.eq_iff_iff]; simp only [Bool.and_eq_true, decide_eq_true_eq]; omega)) rfl ⟨rfl, ?_⟩
      all_goals (repeat (first | exact bref _ | refine bdn ?_ _ | refine bdr ?_ | refine bal ?_ _ | refine bset ?_ (by simp; done) _))
    · have hd : decide (a < 9223372036854775808) = false := by simp; omega
      have hd2 : (a == 9223372036854775808) = true := by simpa using h1
      have hd3 : (l == 0) = false := by simpa using h2
      have H1 := Lib.hid (And.intro h1 h2)
      clear h1 h2
      go_enter Tryd.func63, Tryd.ntmps63
      go_wp2_with fail
      go_quiet (fail)
      go_wp2_with fail
      all_goals (rename_i c K0 a0; simp only [u64_unsigned, Bool.false_eq_true, if_false, X2.out, IntKind.wrap_u64, beq_iff_eq, beq_eq_false_iff_ne, ne_eq] at c)
      all_goals have C := Lib.hid c
      all_goals clear c
      all_goals go_region_held3 (fun w' => w'.cell? ⟨w.heap.size, 0, none⟩ = some (.int .u64 a) ∧ w'.cell? ⟨w.heap.size, 1, none⟩ = some (.int .u64 l)) (go_keep) (fail)
      all_goals go_wp2_with fail
      all_goals
        refine bodyPost_ret (v := .tuple #[.agg #[.int .i64 (jH true (val a l)), .int .u64 (jL true (val a l))], .bool (inW (signed true (val a l)))]) (by
          have c := C.out
          have hq := H1.out
          simp only [results, Tryd.results63, go_sem]
          simp [go_sem, jH, jL, jM, inW, signed, IntKind.wrap_i64, IntKind.wrap_u64, X1.out, X2.out]
          unfold negM mH mL val U64 at *
          try unfold wrap64
          refine ⟨⟨?_, ?_⟩, ?_⟩
          · omega
          · omega
          · first | omega | (rw [Bool.eq_iff_iff]; simp only [Bool.and_eq_true, decide_eq_true_eq]; omega)) rfl ⟨rfl, ?_⟩
      all_goals (repeat (first | exact bref _ | refine bdn ?_ _ | refine bdr ?_ | refine bal ?_ _ | refine bset ?_ (by simp; done) _))
    · have hd : decide (a < 9223372036854775808) = false := by simp; omega
      have hd2 : (a == 9223372036854775808) = false := by simp; omega
      have H1 := Lib.hid h1
      clear h1
      go_enter Tryd.func63, Tryd.ntmps63
      go_wp2_with fail
      go_quiet (fail)
      go_wp2_with fail
      all_goals (rename_i c K0 a0; simp only [u64_unsigned, Bool.false_eq_true, if_false, X2.out, IntKind.wrap_u64, beq_iff_eq, beq_eq_false_iff_ne, ne_eq] at c)
      all_goals have C := Lib.hid c
      all_goals clear c
      all_goals go_region
      all_goals go_wp2_with fail
      all_goals
        refine bodyPost_ret (v := .tuple #[.agg #[.int .i64 (jH true (val a l)), .int .u64 (jL true (val a l))], .bool (inW (signed true (val a l)))]) (by
          have c := C.out
          have hq := H1.out
          simp only [results, Tryd.results63, go_sem]
          simp [go_sem, jH, jL, jM, inW, signed, IntKind.wrap_i64, IntKind.wrap_u64, X1.out, X2.out]
          unfold negM mH mL val U64 at *
          try unfold wrap64
          refine ⟨⟨?_, ?_⟩, ?_⟩
          · omega
          · omega
          · first | omega | (rw [Bool.eq_iff_iff]; simp only [Bool.and_eq_true, decide_eq_true_eq]; omega)) rfl ⟨rfl, ?_⟩
      all_goals (repeat (first | exact bref _ | refine bdn ?_ _ | refine bdr ?_ | refine bal ?_ _ | refine bset ?_ (by simp; done) _))
end Go.Proofs.YtjhfbnndapopgaaDoor
