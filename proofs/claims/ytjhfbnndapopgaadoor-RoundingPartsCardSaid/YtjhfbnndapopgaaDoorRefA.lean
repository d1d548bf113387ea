/-
  Contracts of the short functions of the document's own answers for wide numbers.
-/
import Derived.Test.YtjhfbnndapopgaaDoorWalkC
import Derived.Test.YtjhfbnndapopgaaDoorMath
import Derived.BigQuiet
import Derived.Deep.QuietTactic
namespace Go.Proofs.YtjhfbnndapopgaaDoor
open Go Go.RowKit WM

theorem u64_unsigned : IntKind.u64.signed = false := rfl

theorem rsplit_any (a l : Int) (hh : I64 a) (hl : U64 l) (w : World) :
    Calls Tryd.prog 55 #[.agg #[.int .i64 a, .int .u64 l]] w fun e w' =>
      e = .returned (.tuple #[.bool (decide (a < 0)), .agg #[.int .u64 (mH (absW (val a l))), .int .u64 (mL (absW (val a l)))]]) ∧ Below w.heap.size w w' := by
  have hw := wrap_u64_U64 a
  have x1 := u64_not _ hw
  rw [IntKind.wrap_u64] at x1
  have x2 := u64_not l hl
  have X1 := Lib.hid x1; have X2 := Lib.hid x2
  clear x1 x2
  by_cases hn : a < 0
  · have hd : decide (a < 0) = true := by simpa using hn
    have Hd := Lib.hid hd
    clear hd
    go_enter Tryd.func55, Tryd.ntmps55
    go_wp2_with fail
    go_quiet (fail)
    go_wp2_with fail
    all_goals rename_i c
    all_goals simp only [u64_unsigned, Bool.false_eq_true, if_false, X2.out, IntKind.wrap_u64, beq_iff_eq, beq_eq_false_iff_ne, ne_eq] at c
    all_goals
      refine bodyPost_ret (v := .tuple #[.bool true, .agg #[.int .u64 (mH (absW (val a l))), .int .u64 (mL (absW (val a l)))]]) (by
        simp only [results, Tryd.results55, go_sem]
        simp [go_sem, X1.out, X2.out, IntKind.wrap_u64]
        unfold absW mH mL val I64 U64 at *
        split <;> omega) rfl ⟨by first | rfl | rw [Hd.out], ?_⟩
    all_goals (repeat (first | exact bref _ | refine bdn ?_ _ | refine bal ?_ _ | refine bset ?_ (by simp; done) _))
  · have hd : decide (a < 0) = false := by simpa using hn
    have Hd := Lib.hid hd
    have h0 : 0 ≤ a := by omega
    obtain ⟨e1, e2⟩ := split_pos h0 hh hl
    have E1 := Lib.hid e1; have E2 := Lib.hid e2
    clear hd hn e1 e2
    go_enter Tryd.func55, Tryd.ntmps55
    go_wp2_with fail
    go_quiet (fail)
    go_wp2_with fail
    refine bodyPost_ret (v := .tuple #[.bool false, .agg #[.int .u64 (IntKind.u64.wrap a), .int .u64 l]]) (by simp [results, Tryd.results55, go_sem]) rfl ⟨by rw [Hd.out, E1.out, ← E2.out], ?_⟩
    (repeat (first | exact bref _ | refine bdn ?_ _ | refine bal ?_ _ | refine bset ?_ (by simp; done) _))

theorem rplus_any (ha la hb lb : Int) (h1 : U64 ha) (h2 : U64 la) (h3 : U64 hb) (h4 : U64 lb) (w : World) :
    Calls Tryd.prog 62 #[.agg #[.int .u64 ha, .int .u64 la], .agg #[.int .u64 hb, .int .u64 lb]] w fun e w' =>
      e = .returned (.tuple #[.agg #[.int .u64 (mH (modM (val ha la + val hb lb))), .int .u64 (mL (modM (val ha la + val hb lb)))], .bool (fitsM (val ha la + val hb lb))]) ∧ Below w.heap.size w w' := by
  go_enter Tryd.func62, Tryd.ntmps62
  go_wp2_with fail
  all_goals (rename_i c1 c2; simp only [IntKind.wrap_u64] at c1 c2)
  all_goals
    refine bodyPost_ret (v := .tuple #[.agg #[.int .u64 (mH (modM (val ha la + val hb lb))), .int .u64 (mL (modM (val ha la + val hb lb)))], .bool (fitsM (val ha la + val hb lb))]) (by
      simp only [results, Tryd.results62, go_sem]
      simp [go_sem, IntKind.wrap_u64, fitsM]
      unfold modM mH mL val U64 at *
      refine ⟨⟨?_, ?_⟩, ?_⟩ <;> omega) rfl ⟨rfl, ?_⟩
  all_goals (repeat (first | exact bref _ | refine bal ?_ _))

theorem rminus_any (ha la hb lb : Int) (h1 : U64 ha) (h2 : U64 la) (h3 : U64 hb) (h4 : U64 lb) (hle : val hb lb ≤ val ha la) (w : World) :
    Calls Tryd.prog 74 #[.agg #[.int .u64 ha, .int .u64 la], .agg #[.int .u64 hb, .int .u64 lb]] w fun e w' =>
      e = .returned (.agg #[.int .u64 (mH (val ha la - val hb lb)), .int .u64 (mL (val ha la - val hb lb))]) ∧ Below w.heap.size w w' := by
  have HL := Lib.hid hle
  clear hle
  go_enter Tryd.func74, Tryd.ntmps74
  go_wp2_with fail
  all_goals rename_i c1
  all_goals
    refine bodyPost_ret (v := .agg #[.int .u64 (mH (val ha la - val hb lb)), .int .u64 (mL (val ha la - val hb lb))]) (by
      have hle := HL.out
      simp only [results, Tryd.results74, go_sem]
      simp [go_sem, IntKind.wrap_u64]
      unfold mH mL val U64 at *
      refine ⟨?_, ?_⟩ <;> omega) rfl ⟨rfl, ?_⟩
  all_goals (repeat (first | exact bref _ | refine bal ?_ _))

theorem rless_any (ha la hb lb : Int) (h2 : U64 la) (h4 : U64 lb) (w : World) :
    Calls Tryd.prog 73 #[.agg #[.int .u64 ha, .int .u64 la], .agg #[.int .u64 hb, .int .u64 lb]] w fun e w' =>
      e = .returned (.bool (decide (val ha la < val hb lb))) ∧ Below w.heap.size w w' := by
  go_enter Tryd.func73, Tryd.ntmps73
  go_wp2_with fail
  all_goals
    refine bodyPost_ret (v := .bool (decide (val ha la < val hb lb))) (by
      simp only [results, Tryd.results73, go_sem]
      simp [go_sem]
      unfold val U64 at *
      omega) rfl ⟨rfl, ?_⟩
  all_goals (repeat (first | exact bref _ | refine bal ?_ _))

theorem rsize_any (n : Int) (hn : I64 n) (w : World) :
    Calls Tryd.prog 76 #[.int .i64 n] w fun e w' => e = .returned (.int .u64 (absW n)) ∧ w = w' := by
  have x1 := u64_not _ (wrap_u64_U64 n)
  rw [IntKind.wrap_u64] at x1
  have X1 := Lib.hid x1
  clear x1
  by_cases h0 : n < 0
  · go_enter Tryd.func76, Tryd.ntmps76
    go_wp2_with fail
    refine bodyPost_ret (v := .int .u64 (absW n)) (by
      simp only [results, Tryd.results76, go_sem]
      simp [go_sem, X1.out, IntKind.wrap_u64]
      unfold absW I64 at *
      split <;> omega) rfl ⟨rfl, rfl⟩
  · have h0' : 0 ≤ n := by omega
    go_enter Tryd.func76, Tryd.ntmps76
    go_wp2_with fail
    refine bodyPost_ret (v := .int .u64 (absW n)) (by
      simp only [results, Tryd.results76, go_sem]
      simp [go_sem, IntKind.wrap_u64]
      unfold absW I64 at *
      split <;> omega) rfl ⟨rfl, rfl⟩

theorem rof_any (n : Int) (hn : I64 n) (w : World) :
    Calls Tryd.prog 28 #[.int .i64 n] w fun e w' => e = .returned (.agg #[.int .i64 (wH n), .int .u64 (wL n)]) ∧ Below w.heap.size w w' := by
  obtain ⟨e1, e2⟩ := of_eq hn
  have H1 := Lib.hid e1; have H2 := Lib.hid e2
  clear e1 e2
  by_cases h0 : n < 0
  · go_enter Tryd.func28, Tryd.ntmps28
    go_wp2_with fail
    refine bodyPost_ret (v := .agg #[.int .i64 (wH n), .int .u64 (wL n)]) (by
      simp only [results, Tryd.results28, go_sem]
      simp [go_sem]
      rw [← H1.out, ← H2.out]
      unfold I64 at *
      exact ⟨by omega, rfl⟩) rfl ⟨rfl, ?_⟩
    (repeat (first | exact bref _ | refine bal ?_ _ | refine bset ?_ (by simp; done) _))
  · have h0' : 0 ≤ n := by omega
    go_enter Tryd.func28, Tryd.ntmps28
    go_wp2_with fail
    refine bodyPost_ret (v := .agg #[.int .i64 (wH n), .int .u64 (wL n)]) (by
      simp only [results, Tryd.results28, go_sem]
      simp [go_sem]
      rw [← H1.out, ← H2.out]
      unfold I64 at *
      exact ⟨by omega, rfl⟩) rfl ⟨rfl, ?_⟩
    (repeat (first | exact bref _ | refine bal ?_ _ | refine bset ?_ (by simp; done) _))
end Go.Proofs.YtjhfbnndapopgaaDoor
