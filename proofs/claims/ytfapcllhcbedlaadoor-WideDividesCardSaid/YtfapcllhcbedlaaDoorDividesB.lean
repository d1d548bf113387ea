/-
  The walk of the law WideDivides where the product does not fit.
-/
import Derived.Test.YtfapcllhcbedlaaDoorLive
import Derived.Test.YtfapcllhcbedlaaDoorMathH
import Derived.Test.YtfapcllhcbedlaaDoorExact
import Derived.Deep.RegionWith
import Derived.Deep.DeepCutAuto
namespace Go.Proofs.YtfapcllhcbedlaaDoor
open Go Go.RowKit WM

theorem one64 : I64 1 := by unfold I64; omega

set_option maxRecDepth 100000 in
set_option maxHeartbeats 8000000 in
theorem divides_out (h l n : Int) (h1 : I64 h) (h2 : U64 l) (h5 : I64 n) (hn1 : 1 ≤ n) (hi : inW (val h l / n * n) = false) (w : World) (ht : Tb w) :
    Calls Tryd.prog 8 #[.agg #[.int .i64 h, .int .u64 l], .int .i64 n] w fun e w' => e = .returned (.bool true) ∧ Below w.heap.size w w' := by
  obtain ⟨k1, k2, k3, k4, k5, k6⟩ := div_parts hn1 h5 (inW_val h1 h2)
  have DIV := fun W => div_any h l n h1 h2 h5 hn1 W
  obtain ⟨q, hq⟩ : ∃ q, val h l / n = q := ⟨_, rfl⟩
  obtain ⟨r, hr⟩ : ∃ r, val h l % n = r := ⟨_, rfl⟩
  simp only [hq, hr] at DIV hi k1 k2 k3 k4 k5 k6
  clear hq hr
  have DIV := Lib.hid DIV
  have hqe : val (wH q) (wL q) = q := val_w k1
  have SC := fun W => scale_any (wH q) (wL q) n (wH_I64 q) (wL_U64 q) h5 W
  simp only [hqe] at SC
  obtain ⟨m1, m2, m3, m4, m5, m6⟩ := k6 hi
  simp only [wH_out hi, wL_out hi, wE_out hi] at SC
  have SC := Lib.hid SC
  have h1e : val (wH 1) (wL 1) = 1 := val_w (inW_I64 one64)
  have ADD := fun W => add_x (wH q) (wL q) (wH 1) (wL 1) (wH_I64 _) (wL_U64 _) (wH_I64 _) (wL_U64 _) W
  simp only [hqe, h1e, wE_in m3] at ADD
  have ADD := Lib.hid ADD
  have hxe : val (wH (q + 1)) (wL (q + 1)) = q + 1 := val_w m3
  have SC2 := fun W => scale_any (wH (q + 1)) (wL (q + 1)) n (wH_I64 _) (wL_U64 _) h5 W
  simp only [hxe, wE_in m4] at SC2
  have SC2 := Lib.hid SC2
  have hpe : val (wH ((q + 1) * n)) (wL ((q + 1) * n)) = (q + 1) * n := val_w m4
  have hre : val (wH (n - r)) (wL (n - r)) = n - r := val_w (inW_I64 m5)
  have SUB := fun W => sub_x (wH ((q + 1) * n)) (wL ((q + 1) * n)) (wH (n - r)) (wL (n - r)) (wH_I64 _) (wL_U64 _) (wH_I64 _) (wL_U64 _) W
  simp only [hpe, hre, m6, wH_val h1 h2, wL_val h1 h2, wE_in (inW_val h1 h2)] at SUB
  have SUB := Lib.hid SUB
  have hneg : h < 0 := by unfold val at m2; unfold U64 at h2; omega
  have hsi : IntKind.i64.wrap (n - r) = n - r := by rw [IntKind.wrap_i64]; unfold I64 at *; omega
  clear hi k6 k5 hqe h1e hxe hpe hre m2 m3 m4 m6 k1 k4
  go_enter Tryd.func8, Tryd.ntmps8
  have A0 := Own.new w (.int .i64 h) (.int .u64 l) 24
  go_wp2_with fail
  refine (DIV.out _).mono ?_
  rintro e w1 ⟨rfl, q1⟩
  have A1 := (A0.keep q1).al (.cells #[.int .i64 (wH q), .int .u64 (wL q)] 24)
  have Q1 := Own.new w1 (.int .i64 (wH q)) (.int .u64 (wL q)) 24
  have Z1 := bal (btr (bal (bref w) _) q1) (.cells #[.int .i64 (wH q), .int .u64 (wL q)] 24)
  clear A0 q1
  have Q1x := Q1
  obtain ⟨f1, f2, _, _⟩ := Q1x
  go_wp2_with fail
  clear f1 f2
  refine (SC.out _).mono ?_
  rintro e w2 ⟨rfl, q2⟩
  have A2 := (A1.keep q2).al (.cells #[.int .i64 0, .int .u64 0] 24)
  have Q2 := (Q1.keep q2).al (.cells #[.int .i64 0, .int .u64 0] 24)
  have P2 := Own.new w2 (.int .i64 0) (.int .u64 0) 24
  have L2 : w.heap.size < w2.heap.size := by
    have := A1.lt; have := q2.size; omega
  have Z2 := bal (btr Z1 q2) (.cells #[.int .i64 0, .int .u64 0] 24)
  have q2s := q2.size
  clear A1 Z1 q2
  have QX := Q2; have PX := P2; have AX := A2
  obtain ⟨g0, g1, _, _⟩ := QX; obtain ⟨p0, p1, _, _⟩ := PX; obtain ⟨a0, a1, _, _⟩ := AX
  have e0 : w1.heap.size < w2.heap.size := by
    have := Q1.lt; have := q2s; omega
  have e1 : w1.heap.size < w2.heap.size + 1 := by omega
  have e2 : w1.heap.size < w2.heap.size + 1 + 1 := by omega
  have e3 : w1.heap.size ≤ w2.heap.size := by omega
  have e4 : w1.heap.size ≤ w2.heap.size + 1 := by omega
  have e5 : w1.heap.size ≤ w2.heap.size + 1 + 1 := by omega
  have e6 : w1.heap.size ≤ w2.heap.size + 1 + 1 + 1 := by omega
  clear Q1
  go_wp2_with fail
  go_cut [12, 13] (fun v12 v13 wx => ∃ b : Nat, v12 = .pointer (some ⟨b, 0, none⟩) ∧ v13 = .int .i64 0 ∧ Own wx b (.int .i64 (wH (q + 1))) (.int .u64 (wL (q + 1))) ∧ Own wx w2.heap.size (.int .i64 0) (.int .u64 0) ∧ Own wx w.heap.size (.int .i64 h) (.int .u64 l) ∧ b ≠ w2.heap.size ∧ w.heap.size < w2.heap.size ∧ Below w.heap.size w wx)
  case first =>
    go_region_with (first
      | (go_at_call 31; refine (of_x 1 one64 _).mono ?_; rintro e W1 ⟨rfl, rfl⟩)
      | (go_at_call 18; refine (ADD.out _).mono ?_; rintro e W1 ⟨rfl, rfl⟩))
    all_goals go_goals
    all_goals (go_wp2_with fail; go_meet; refine ⟨_, rfl, rfl, ?_, P2.keep ?_, A2.keep ?_, ?_, ?_, ?_⟩)
    all_goals try (refine ⟨?_, ?_, ?_, ?_⟩ <;> (simp [go_sem]; done))
    all_goals try exact L2
    all_goals try (first | omega | (simp; done) | (simp; omega))
    all_goals (repeat (first | exact Z2 | exact bref _ | refine bdr ?_ | refine bal ?_ _))
  case rest =>
    obtain ⟨b, rfl, rfl, N3, P3, A3, nb, nw, Z3⟩ := hcut
    clear Q2 P2 A2 g0 g1 p0 p1 a0 a1 Z2 ADD
    have NX := N3; have PX := P3
    obtain ⟨x0, x1, _, _⟩ := NX
    obtain ⟨p0, p1, p2, p3⟩ := PX
    go_wp2_with fail
    refine (SC2.out _).mono ?_
    rintro e w4 ⟨rfl, q4⟩
    have P4 := P3.keep q4
    have A4 := A3.keep q4
    have Z4 := btr Z3 q4
    clear x0 x1 p0 p1 p2 p3 N3 P3 A3 q4
    obtain ⟨p0, p1, p2, p3⟩ := P4
    go_wp2_with fail
    have P5 : Own ((w4.setCell ⟨w2.heap.size, 0, none⟩ (.int .i64 (wH ((q + 1) * n)))).setCell ⟨w2.heap.size, 1, none⟩ (.int .u64 (wL ((q + 1) * n)))) w2.heap.size (.int .i64 (wH ((q + 1) * n))) (.int .u64 (wL ((q + 1) * n))) := by
      refine ⟨?_, ?_, ?_, ?_⟩ <;> simp [go_sem, p0, p1, p2, p3]
    have A5 := (A4.far (p := ⟨w2.heap.size, 0, none⟩) (by show w2.heap.size ≠ w.heap.size; omega) (.int .i64 (wH ((q + 1) * n)))).far (p := ⟨w2.heap.size, 1, none⟩) (by show w2.heap.size ≠ w.heap.size; omega) (.int .u64 (wL ((q + 1) * n)))
    have Z5 := bset (bset Z4 (p := ⟨w2.heap.size, 0, none⟩) (by show w.heap.size ≤ w2.heap.size; omega) (.int .i64 (wH ((q + 1) * n)))) (p := ⟨w2.heap.size, 1, none⟩) (by show w.heap.size ≤ w2.heap.size; omega) (.int .u64 (wL ((q + 1) * n)))
    clear p0 p1 p2 p3 A4 Z4 SC2
    generalize ((w4.setCell ⟨w2.heap.size, 0, none⟩ (.int .i64 (wH ((q + 1) * n)))).setCell ⟨w2.heap.size, 1, none⟩ (.int .u64 (wL ((q + 1) * n)))) = w5 at P5 A5 Z5 ⊢
    have PX := P5; have AX := A5
    obtain ⟨p0, p1, _, _⟩ := PX
    obtain ⟨a0, a1, _, _⟩ := AX
    have l0 := P5.lt
    have l1 : w2.heap.size < w5.heap.size + 1 := by omega
    have l2 : w2.heap.size ≤ w5.heap.size := by omega
    have l3 : w2.heap.size ≤ w5.heap.size + 1 := by omega
    have l4 : w2.heap.size ≤ w5.heap.size + 1 + 1 := by omega
    go_cut [15, 16] (fun v15 v16 wx => ∃ b : Nat, v15 = .pointer (some ⟨b, 0, none⟩) ∧ v16 = .int .i64 0 ∧ Own wx b (.int .i64 h) (.int .u64 l) ∧ Own wx w.heap.size (.int .i64 h) (.int .u64 l) ∧ Below w.heap.size w wx)
    case first =>
      go_region_with (first
        | (go_at_call 31; (try rw [hsi]); refine (of_x (n - r) m5 _).mono ?_; rintro e W1 ⟨rfl, rfl⟩)
        | (go_at_call 20; refine (SUB.out _).mono ?_; rintro e W1 ⟨rfl, rfl⟩))
      all_goals go_goals
      all_goals (go_wp2_with fail; go_meet; refine ⟨_, rfl, rfl, ?_, A5.keep ?_, ?_⟩)
      all_goals try (refine ⟨?_, ?_, ?_, ?_⟩ <;> (simp [go_sem]; done))
      all_goals (repeat (first | exact Z5 | exact bref _ | refine bdr ?_ | refine bal ?_ _))
    case rest =>
      obtain ⟨b2, rfl, rfl, X6, A6, Z6⟩ := hcut
      clear P5 A5 p0 p1 a0 a1 Z5 SUB
      obtain ⟨x0, x1, _, _⟩ := X6
      obtain ⟨y0, y1, _, _⟩ := A6
      have T6 := ht.keep Z6
      go_wp2_with fail
      refine (live_any _ T6).mono ?_
      rintro e w7 ⟨rfl, q7⟩
      go_wp2_with fail
      go_ret
      exact ⟨rfl, btr Z6 q7⟩
end Go.Proofs.YtfapcllhcbedlaaDoor
