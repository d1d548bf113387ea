/-
  Contracts of the short functions of package wide, by walking their text.
-/
import Derived.Test.YtjhfbnndapopgaaDoorProg
import Derived.Test.YtjhfbnndapopgaaDoorMath
import Derived.WalkKit
import Derived.Outline
import Derived.Below
import Derived.Lib.Hide
import Derived.Laws.Externs
import Derived.Shelf.Spec.BitsCarry
namespace Go.Proofs.YtjhfbnndapopgaaDoor
open Go Go.RowKit WM

theorem bcell {W w1 : World} (hb : Below W.heap.size W w1) : (∀ b o, b < W.heap.size → w1.cell? ⟨b, o, none⟩ = W.cell? ⟨b, o, none⟩) ∧ (∀ b o, b < W.heap.size → w1.frozen? ⟨b, o, none⟩ = W.frozen? ⟨b, o, none⟩) :=
  ⟨fun b o h => hb.cell (p := ⟨b, o, none⟩) h, fun b o h => hb.frozen (p := ⟨b, o, none⟩) h⟩

theorem bal {w w' : World} (h : Below w.heap.size w w') (o : Obj) : Below w.heap.size w (w'.alloc o) := h.alloc h.size _
theorem btr {w w' w'' : World} (h : Below w.heap.size w w') (k : Below w'.heap.size w' w'') : Below w.heap.size w w'' := h.trans (k.mono h.size)
theorem bset {w w' : World} (h : Below w.heap.size w w') {p : Addr} (hp : w.heap.size ≤ p.block) (v : Value) : Below w.heap.size w (w'.setCell p v) := h.setCell hp v
theorem bdr {w w' : World} (h : Below w.heap.size w w') : Below w.heap.size w w'.drew := h.drew
theorem bref (w : World) : Below w.heap.size w w := Below.refl _ _

theorem add64n (x y c : Nat) (hc : c ≤ 1) (w : World) :
    (callFunc 50 #[.int .u64 x, .int .u64 y, .int .u64 c]).run Tryd.prog w =
      .ok (.value (.tuple #[.int .u64 (((x + y + c) % 18446744073709551616 : Nat) : Int), .int .u64 (((x + y + c) / 18446744073709551616 : Nat) : Int)])) w := by
  rw [run_callFunc_extern Tryd.func50 (by kernel_rfl) (by kernel_rfl) (by kernel_rfl) (e := add64Entry) (by kernel_rfl), Go.run_add64 x y c (by omega) (by omega) (by omega) (by omega)]
  simp only [Result.andThen]
  congr 5 <;> omega
theorem add64_0 (x y : Int) (hx : 0 ≤ x) (hy : 0 ≤ y) (w : World) :
    (callFunc 50 #[.int .u64 x, .int .u64 y, .int .u64 0]).run Tryd.prog w =
      .ok (.value (.tuple #[.int .u64 ((x + y) % 18446744073709551616), .int .u64 ((x + y) / 18446744073709551616)])) w := by
  obtain ⟨x, rfl⟩ := Int.eq_ofNat_of_zero_le hx
  obtain ⟨y, rfl⟩ := Int.eq_ofNat_of_zero_le hy
  exact (add64n x y 0 (by omega) w)
theorem add64_c (x y c : Int) (hx : 0 ≤ x) (hy : 0 ≤ y) (hc0 : 0 ≤ c) (hc1 : c ≤ 1) (w : World) :
    (callFunc 50 #[.int .u64 x, .int .u64 y, .int .u64 c]).run Tryd.prog w =
      .ok (.value (.tuple #[.int .u64 ((x + y + c) % 18446744073709551616), .int .u64 ((x + y + c) / 18446744073709551616)])) w := by
  obtain ⟨x, rfl⟩ := Int.eq_ofNat_of_zero_le hx
  obtain ⟨y, rfl⟩ := Int.eq_ofNat_of_zero_le hy
  obtain ⟨c, rfl⟩ := Int.eq_ofNat_of_zero_le hc0
  exact (add64n x y c (by omega) w)
theorem sub64n (x y b : Nat) (hb : b ≤ 1) (w : World) :
    (callFunc 51 #[.int .u64 x, .int .u64 y, .int .u64 b]).run Tryd.prog w =
      .ok (.value (.tuple #[.int .u64 (((x + 18446744073709551616 - y - b) % 18446744073709551616 : Nat) : Int), .int .u64 ((if x < y + b then 1 else 0 : Nat) : Int)])) w := by
  rw [run_callFunc_extern Tryd.func51 (by kernel_rfl) (by kernel_rfl) (by kernel_rfl) (e := sub64Entry) (by kernel_rfl), Go.Proofs.run_sub64 x y b hb]
  rfl
theorem sub64_c (x y b : Int) (hx : 0 ≤ x) (hy : U64 y) (hb0 : 0 ≤ b) (hb1 : b ≤ 1) (w : World) :
    (callFunc 51 #[.int .u64 x, .int .u64 y, .int .u64 b]).run Tryd.prog w =
      .ok (.value (.tuple #[.int .u64 ((x - y - b) % 18446744073709551616), .int .u64 (if x < y + b then 1 else 0)])) w := by
  unfold U64 at hy
  obtain ⟨x, rfl⟩ := Int.eq_ofNat_of_zero_le hx
  obtain ⟨y, rfl⟩ := Int.eq_ofNat_of_zero_le hy.1
  obtain ⟨b, rfl⟩ := Int.eq_ofNat_of_zero_le hb0
  have e1 : (((x : Int) - y - b) % 18446744073709551616) = (((x + 18446744073709551616 - y - b) % 18446744073709551616 : Nat) : Int) := by
    have hy2 := hy.2
    have h : ((x + 18446744073709551616 - y - b : Nat) : Int) = (x : Int) + 18446744073709551616 - y - b := by omega
    rw [Int.natCast_emod, h]
    show _ = _ % (18446744073709551616 : Int)
    omega
  have e2 : (if (x : Int) < y + b then (1 : Int) else 0) = ((if x < y + b then 1 else 0 : Nat) : Int) := by
    by_cases h : x < y + b
    · rw [if_pos h, if_pos (by omega)]; rfl
    · rw [if_neg h, if_neg (by omega)]; rfl
  rw [e1, e2]
  exact sub64n x y b (by omega) w

theorem of_any (n : Int) (hn : I64 n) (w : World) :
    Calls Tryd.prog 16 #[.int .i64 n] w fun e w' => e = .returned (.agg #[.int .i64 (wH n), .int .u64 (wL n)]) ∧ Below w.heap.size w w' := by
  obtain ⟨e1, e2⟩ := of_eq hn
  have H1 := Lib.hid e1; have H2 := Lib.hid e2
  clear e1 e2
  go_enter Tryd.func16, Tryd.ntmps16
  go_wp2_with fail
  refine bodyPost_ret (v := .agg #[.int .i64 (n / 9223372036854775808), .int .u64 (IntKind.u64.wrap n)]) (by simp [results, Tryd.results16, go_sem]) rfl ⟨by rw [H1.out, H2.out], bal (bref _) _⟩

theorem add_any (ha la hb lb : Int) (h1 : I64 ha) (h2 : U64 la) (h3 : I64 hb) (h4 : U64 lb) (w : World) :
    Calls Tryd.prog 15 #[.agg #[.int .i64 ha, .int .u64 la], .agg #[.int .i64 hb, .int .u64 lb]] w fun e w' =>
      e = .returned (.tuple #[.agg #[.int .i64 (wH (val ha la + val hb lb)), .int .u64 (wL (val ha la + val hb lb))], .int .i64 (wE (val ha la + val hb lb))]) ∧ Below w.heap.size w w' := by
  have h := add64_0 la lb h2.1 h4.1
  have ht := add_test h1 h2 h3 h4
  cases hi : inW (val ha la + val hb lb)
  · have H := Lib.hid hi
    rw [hi] at ht
    simp only [iff_true] at ht
    clear hi
    go_enter Tryd.func15, Tryd.ntmps15
    go_wp2_with fail
    refine bodyPost_ret (v := .tuple #[.agg #[.int .i64 0, .int .u64 0], .int .i64 6]) (by simp [results, Tryd.results15, go_sem]) rfl ⟨by rw [wH_out H.out, wL_out H.out, wE_out H.out], bal (bal (bal (bref _) _) _) _⟩
  · obtain ⟨e1, e2⟩ := add_hi h1 h2 h3 h4 hi
    have H := Lib.hid hi
    have H1 := Lib.hid e1; have H2 := Lib.hid e2
    rw [hi] at ht
    simp only [reduceCtorEq, iff_false, Int.not_lt] at ht
    clear hi e1 e2
    go_enter Tryd.func15, Tryd.ntmps15
    go_wp2_with fail
    refine bodyPost_ret (v := .tuple #[.agg #[.int .i64 (wrap64 (wrap64 (ha + hb) + wrap64 ((la + lb) / 18446744073709551616))), .int .u64 ((la + lb) % 18446744073709551616)], .int .i64 0]) (by simp [results, Tryd.results15, go_sem]) rfl ⟨by rw [H1.out, H2.out, wE_in H.out], bal (bal (bal (bref _) _) _) _⟩

theorem sub_any (ha la hb lb : Int) (h1 : I64 ha) (h2 : U64 la) (h3 : I64 hb) (h4 : U64 lb) (w : World) :
    Calls Tryd.prog 17 #[.agg #[.int .i64 ha, .int .u64 la], .agg #[.int .i64 hb, .int .u64 lb]] w fun e w' =>
      e = .returned (.tuple #[.agg #[.int .i64 (wH (val ha la - val hb lb)), .int .u64 (wL (val ha la - val hb lb))], .int .i64 (wE (val ha la - val hb lb))]) ∧ Below w.heap.size w w' := by
  have h : ∀ W, (callFunc 51 #[.int .u64 la, .int .u64 lb, .int .u64 0]).run Tryd.prog W = .ok (.value (.tuple #[.int .u64 ((la - lb) % 18446744073709551616), .int .u64 (if la < lb then 1 else 0)])) W := fun W => by
    have := sub64_c la lb 0 h2.1 h4 (Int.le_refl 0) (by decide) W
    rw [this, Int.sub_zero, Int.add_zero]
  have ht := sub_test h1 h2 h3 h4
  obtain ⟨B, hB⟩ : ∃ B : Int, (if la < lb then (1 : Int) else 0) = B := ⟨_, rfl⟩
  rw [hB] at ht
  simp only [hB] at h
  cases hi : inW (val ha la - val hb lb)
  · have H := Lib.hid hi
    rw [hi] at ht
    simp only [iff_true] at ht
    clear hi hB
    go_enter Tryd.func17, Tryd.ntmps17
    go_wp2_with fail
    refine bodyPost_ret (v := .tuple #[.agg #[.int .i64 0, .int .u64 0], .int .i64 6]) (by simp [results, Tryd.results17, go_sem]) rfl ⟨by rw [wH_out H.out, wL_out H.out, wE_out H.out], bal (bal (bal (bref _) _) _) _⟩
  · obtain ⟨e1, e2⟩ := sub_hi h1 h2 h3 h4 hi
    rw [hB] at e1
    have H := Lib.hid hi
    have H1 := Lib.hid e1; have H2 := Lib.hid e2
    rw [hi] at ht
    simp only [reduceCtorEq, iff_false, Int.not_lt] at ht
    clear hi e1 e2 hB
    go_enter Tryd.func17, Tryd.ntmps17
    go_wp2_with fail
    refine bodyPost_ret (v := .tuple #[.agg #[.int .i64 (wrap64 (wrap64 (ha - hb) - wrap64 B)), .int .u64 ((la - lb) % 18446744073709551616)], .int .i64 0]) (by simp [results, Tryd.results17, go_sem]) rfl ⟨by rw [H1.out, H2.out, wE_in H.out], bal (bal (bal (bref _) _) _) _⟩

theorem compare_int (x y : Int) (w : World) : Calls Tryd.prog 71 #[.int .i64 x, .int .i64 y] w fun e w' => e = .returned (.int .i64 (cmpW x y)) ∧ w = w' := by
  by_cases h1 : x < y
  · have H : Hid (cmpW x y = -1) := Lib.hid (by unfold cmpW; rw [if_pos h1])
    go_enter Tryd.func71, Tryd.ntmps71
    go_wp2
    go_ret
    exact ⟨by rw [H.out]; rfl, rfl⟩
  · by_cases h2 : y < x
    · have H : Hid (cmpW x y = 1) := Lib.hid (by unfold cmpW; rw [if_neg h1, if_pos h2])
      go_enter Tryd.func71, Tryd.ntmps71
      go_wp2
      go_ret
      exact ⟨by rw [H.out]; rfl, rfl⟩
    · have H : Hid (cmpW x y = 0) := Lib.hid (by unfold cmpW; rw [if_neg h1, if_neg h2])
      go_enter Tryd.func71, Tryd.ntmps71
      go_wp2
      go_ret
      exact ⟨by rw [H.out]; rfl, rfl⟩

theorem compare_u64 (x y : Int) (w : World) : Calls Tryd.prog 72 #[.int .u64 x, .int .u64 y] w fun e w' => e = .returned (.int .i64 (cmpW x y)) ∧ w = w' := by
  by_cases h1 : x < y
  · have H : Hid (cmpW x y = -1) := Lib.hid (by unfold cmpW; rw [if_pos h1])
    go_enter Tryd.func72, Tryd.ntmps72
    go_wp2
    go_ret
    exact ⟨by rw [H.out]; rfl, rfl⟩
  · by_cases h2 : y < x
    · have H : Hid (cmpW x y = 1) := Lib.hid (by unfold cmpW; rw [if_neg h1, if_pos h2])
      go_enter Tryd.func72, Tryd.ntmps72
      go_wp2
      go_ret
      exact ⟨by rw [H.out]; rfl, rfl⟩
    · have H : Hid (cmpW x y = 0) := Lib.hid (by unfold cmpW; rw [if_neg h1, if_neg h2])
      go_enter Tryd.func72, Tryd.ntmps72
      go_wp2
      go_ret
      exact ⟨by rw [H.out]; rfl, rfl⟩

theorem negated_any (h l : Int) (hh : U64 h) (hl : U64 l) (w : World) :
    Calls Tryd.prog 64 #[.agg #[.int .u64 h, .int .u64 l]] w fun e w' =>
      e = .returned (.agg #[.int .u64 (mH (negM (val h l))), .int .u64 (mL (negM (val h l)))]) ∧ Below w.heap.size w w' := by
  have k1 := sub64_c 0 l 0 (Int.le_refl 0) hl (Int.le_refl 0) (by decide)
  obtain ⟨e1, e2⟩ := neg_eq (h := h) hl
  obtain ⟨B, hB⟩ : ∃ B : Int, (if 0 < l + 0 then (1 : Int) else 0) = B := ⟨_, rfl⟩
  have hb : 0 ≤ B ∧ B ≤ 1 := by rw [← hB]; split <;> omega
  have k2 := sub64_c 0 h B (Int.le_refl 0) hh hb.1 hb.2
  simp only [hB] at k1
  rw [hB] at e1
  have H1 := Lib.hid e1; have H2 := Lib.hid e2
  obtain ⟨C, hC⟩ : ∃ C : Int, (if 0 < h + B then (1 : Int) else 0) = C := ⟨_, rfl⟩
  simp only [hC] at k2
  clear e1 e2 hB hC
  go_enter Tryd.func64, Tryd.ntmps64
  go_wp2_with fail
  refine bodyPost_ret (v := .agg #[.int .u64 ((-h - B) % 18446744073709551616), .int .u64 (-l % 18446744073709551616)]) (by simp [results, Tryd.results64, go_sem]) rfl ⟨by rw [H1.out, H2.out], bal (bal (bref _) _) _⟩

theorem split_any (h l : Int) (hh : I64 h) (hl : U64 l) (w : World) :
    Calls Tryd.prog 41 #[.agg #[.int .i64 h, .int .u64 l]] w fun e w' =>
      e = .returned (.tuple #[.agg #[.int .u64 (mH (absW (val h l))), .int .u64 (mL (absW (val h l)))], .bool (decide (h < 0))]) ∧ Below w.heap.size w w' := by
  by_cases hn : h < 0
  · obtain ⟨e1, e2⟩ := split_neg hn hh hl
    have H1 := Lib.hid e1; have H2 := Lib.hid e2
    have hd : decide (h < 0) = true := by simpa using hn
    have Hd := Lib.hid hd
    have hu := wrap_u64_U64 h
    clear e1 e2 hd
    go_enter Tryd.func41, Tryd.ntmps41
    go_wp2_with (go_at_call 64; refine (negated_any _ _ hu hl _).mono ?_; rintro e w1 ⟨rfl, hb⟩; obtain ⟨hc, hf⟩ := bcell hb; have hs := hb.size)
    refine bodyPost_ret (v := .tuple #[.agg #[.int .u64 (mH (negM (val (IntKind.u64.wrap h) l))), .int .u64 (mL (negM (val (IntKind.u64.wrap h) l)))], .bool true]) (by simp [results, Tryd.results41, go_sem, hc]) rfl ⟨by rw [H1.out, H2.out, Hd.out], bset (bset (btr (bal (bal (bal (bref _) _) _) _) hb) (by simp) _) (by simp) _⟩
  · obtain ⟨e1, e2⟩ := split_pos (by omega) hh hl
    have H1 := Lib.hid e1; have H2 := Lib.hid e2
    have hd : decide (h < 0) = false := by simpa using hn
    have Hd := Lib.hid hd
    clear e1 e2 hd
    go_enter Tryd.func41, Tryd.ntmps41
    go_wp2_with fail
    refine bodyPost_ret (v := .tuple #[.agg #[.int .u64 (IntKind.u64.wrap h), .int .u64 l], .bool false]) (by simp [results, Tryd.results41, go_sem]) rfl ⟨by rw [H1.out, ← H2.out, Hd.out], bal (bal (bal (bref _) _) _) _⟩

end Go.Proofs.YtjhfbnndapopgaaDoor
