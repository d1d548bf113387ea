/-
  Of, Add and Sub once more, with the world that they leave written out.
-/
import Derived.Test.YtjhfbnndapopgaaDoorWalkA
namespace Go.Proofs.YtjhfbnndapopgaaDoor
open Go Go.RowKit WM

theorem of_x (n : Int) (hn : I64 n) (w : World) :
    Calls Tryd.prog 16 #[.int .i64 n] w fun e w' => e = .returned (.agg #[.int .i64 (wH n), .int .u64 (wL n)]) ∧ w' = w.alloc (.cells #[.int .i64 (wH n), .int .u64 (wL n)] 24) := by
  obtain ⟨e1, e2⟩ := of_eq hn
  have H1 := Lib.hid e1; have H2 := Lib.hid e2
  clear e1 e2
  go_enter Tryd.func16, Tryd.ntmps16
  go_wp2_with fail
  refine bodyPost_ret (v := .agg #[.int .i64 (n / 9223372036854775808), .int .u64 (IntKind.u64.wrap n)]) (by simp [results, Tryd.results16, go_sem]) rfl ⟨by rw [H1.out, H2.out], by rw [H1.out, H2.out]⟩

theorem add_x (ha la hb lb : Int) (h1 : I64 ha) (h2 : U64 la) (h3 : I64 hb) (h4 : U64 lb) (w : World) :
    Calls Tryd.prog 15 #[.agg #[.int .i64 ha, .int .u64 la], .agg #[.int .i64 hb, .int .u64 lb]] w fun e w' =>
      e = .returned (.tuple #[.agg #[.int .i64 (wH (val ha la + val hb lb)), .int .u64 (wL (val ha la + val hb lb))], .int .i64 (wE (val ha la + val hb lb))]) ∧ w' = ((w.alloc (.cells #[.int .i64 ha, .int .u64 la] 24)).alloc (.cells #[.int .i64 hb, .int .u64 lb] 24)).alloc (.cells #[.int .i64 (wH (val ha la + val hb lb)), .int .u64 (wL (val ha la + val hb lb))] 24) := by
  have h := add64_0 la lb h2.1 h4.1
  have ht := add_test h1 h2 h3 h4
  cases hi : inW (val ha la + val hb lb)
  · have H := Lib.hid hi
    rw [hi] at ht
    simp only [iff_true] at ht
    clear hi
    go_enter Tryd.func15, Tryd.ntmps15
    go_wp2_with fail
    refine bodyPost_ret (v := .tuple #[.agg #[.int .i64 0, .int .u64 0], .int .i64 6]) (by simp [results, Tryd.results15, go_sem]) rfl ⟨by rw [wH_out H.out, wL_out H.out, wE_out H.out], by rw [wH_out H.out, wL_out H.out]⟩
  · obtain ⟨e1, e2⟩ := add_hi h1 h2 h3 h4 hi
    have H := Lib.hid hi
    have H1 := Lib.hid e1; have H2 := Lib.hid e2
    rw [hi] at ht
    simp only [reduceCtorEq, iff_false, Int.not_lt] at ht
    clear hi e1 e2
    go_enter Tryd.func15, Tryd.ntmps15
    go_wp2_with fail
    refine bodyPost_ret (v := .tuple #[.agg #[.int .i64 (wrap64 (wrap64 (ha + hb) + wrap64 ((la + lb) / 18446744073709551616))), .int .u64 ((la + lb) % 18446744073709551616)], .int .i64 0]) (by simp [results, Tryd.results15, go_sem]) rfl ⟨by rw [H1.out, H2.out, wE_in H.out], by rw [H1.out, H2.out]⟩

theorem sub_x (ha la hb lb : Int) (h1 : I64 ha) (h2 : U64 la) (h3 : I64 hb) (h4 : U64 lb) (w : World) :
    Calls Tryd.prog 17 #[.agg #[.int .i64 ha, .int .u64 la], .agg #[.int .i64 hb, .int .u64 lb]] w fun e w' =>
      e = .returned (.tuple #[.agg #[.int .i64 (wH (val ha la - val hb lb)), .int .u64 (wL (val ha la - val hb lb))], .int .i64 (wE (val ha la - val hb lb))]) ∧ w' = ((w.alloc (.cells #[.int .i64 ha, .int .u64 la] 24)).alloc (.cells #[.int .i64 hb, .int .u64 lb] 24)).alloc (.cells #[.int .i64 (wH (val ha la - val hb lb)), .int .u64 (wL (val ha la - val hb lb))] 24) := by
  have h : ∀ W, (callFunc 51 #[.int .u64 la, .int .u64 lb, .int .u64 0]).run Tryd.prog W = .ok (.value (.tuple #[.int .u64 ((la - lb) % 18446744073709551616), .int .u64 (if la < lb then 1 else 0)])) W := fun W => by
    have := sub64_c la lb 0 h2.1 h4 (Int.le_refl 0) (by decide) W
    rw [this, Int.sub_zero, Int.add_zero]
  have ht := sub_test h1 h2 h3 h4
  obtain ⟨B, hB⟩ : ∃ B : Int, (if la < lb then (1 : Int) else 0) = B := ⟨_, rfl⟩
  rw [hB] at ht
  simp only [hB] at h
  cases hi : inW (val ha la - val hb lb)
  · have H := Lib.hid hi
    rw [hi] at ht
    simp only [iff_true] at ht
    clear hi hB
    go_enter Tryd.func17, Tryd.ntmps17
    go_wp2_with fail
    refine bodyPost_ret (v := .tuple #[.agg #[.int .i64 0, .int .u64 0], .int .i64 6]) (by simp [results, Tryd.results17, go_sem]) rfl ⟨by rw [wH_out H.out, wL_out H.out, wE_out H.out], by rw [wH_out H.out, wL_out H.out]⟩
  · obtain ⟨e1, e2⟩ := sub_hi h1 h2 h3 h4 hi
    rw [hB] at e1
    have H := Lib.hid hi
    have H1 := Lib.hid e1; have H2 := Lib.hid e2
    rw [hi] at ht
    simp only [reduceCtorEq, iff_false, Int.not_lt] at ht
    clear hi e1 e2 hB
    go_enter Tryd.func17, Tryd.ntmps17
    go_wp2_with fail
    refine bodyPost_ret (v := .tuple #[.agg #[.int .i64 (wrap64 (wrap64 (ha - hb) - wrap64 B)), .int .u64 ((la - lb) % 18446744073709551616)], .int .i64 0]) (by simp [results, Tryd.results17, go_sem]) rfl ⟨by rw [H1.out, H2.out, wE_in H.out], by rw [H1.out, H2.out]⟩

end Go.Proofs.YtjhfbnndapopgaaDoor
