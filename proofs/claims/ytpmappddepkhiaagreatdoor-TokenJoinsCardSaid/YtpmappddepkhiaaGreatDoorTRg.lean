/-
  The walk of the law of tokens read.
-/
import Derived.Test.YtpmappddepkhiaaGreatDoorTJ
import Derived.Test.YtpmappddepkhiaaGreatDoorTRd
namespace Go.Proofs.YtpmappddepkhiaaGreatDoor
open Go Go.RowKit Go.Lib WM TM

theorem Gd.m {w : World} (h : Gd w) : Mk w := h.1
theorem Gd.e {w : World} (h : Gd w) : Er w := h.2.1
theorem Gd.t {w : World} (h : Gd w) : Tb w := h.2.2

set_option maxRecDepth 100000 in
set_option maxHeartbeats 8000000 in
theorem tokenReads (s : ByteArray) (w : World) (hG : Gd w) :
    Calls Tryz.prog 3 #[.string s] w fun e w' => e = .returned (.bool true) ∧ Below w.heap.size w w' := by
  have HG := Lib.hid hG
  have LV := Lib.hid (fun W h => live_any W h)
  have HB0 := Lib.hid (bref w)
  by_cases hl : 2100 < s.size
  · have hlz : (2100 : Int) < (s.size : Int) := by omega
    clear hl hG
    go_enter Tryz.func3, Tryz.ntmps3
    go_wp2_with fail
    with_reducible refine (LV.out _ (HG.out.keep HB0.out)).mono ?_
    rintro e w1 ⟨rfl, q1⟩
    have HB1 := Lib.hid (btr HB0.out q1)
    clear q1
    go_wp2_with fail
    go_ret
    exact ⟨rfl, HB1.out⟩
  · have hlz : ¬ (2100 : Int) < (s.size : Int) := by omega
    have T1 := fun W hM hE => mtokenize s W hM hE
    have T2 := fun W => rtokenize s W
    have hq1 := TZ_ok (l := byt s)
    obtain ⟨⟨m, a, f⟩, hq⟩ : ∃ q, TZ (byt s) = q := ⟨_, rfl⟩
    rw [hq] at T1 T2 hq1
    obtain ⟨k, hk⟩ : ∃ k, m.length = k := ⟨_, rfl⟩
    have U1 : ∀ W, Mk W → Er W → Calls Tryz.prog 6 #[.string s] W fun e w' => ∃ ao c, e = .returned (.tuple #[.slice ao k c, .int .i64 a, .int .i64 f]) ∧ TokensAt ao m w' ∧ Below W.heap.size W w' := fun W hM hE => by
      subst hk
      exact T1 W hM hE
    have U2 : ∀ W, Calls Tryz.prog 7 #[.string s] W fun e w' => ∃ ao c, e = .returned (.tuple #[.slice ao k c, .int .i64 a, .int .i64 f]) ∧ TokensAt ao m w' ∧ Below W.heap.size W w' := fun W => by
      subst hk
      exact T2 W
    have X1 : ∀ ao c ca cb W, TokensAt ao m W → TokensAt c m W → Calls Tryz.prog 8 #[.slice ao k ca, .slice c k cb] W fun e w' => e = .returned (.bool true) ∧ Below W.heap.size W w' := fun ao c ca cb W h1 h2 => by
      have := rsame ao c m ca cb (by have := hq1.2; simp only at this; omega) W h1 h2
      rwa [hk] at this
    have H1 := Lib.hid U1
    have H2 := Lib.hid U2
    have HX := Lib.hid X1
    clear hG hl T1 T2 hq1 hq U1 U2 X1 hk
    go_enter Tryz.func3, Tryz.ntmps3
    go_wp2_with fail
    refine (H1.out _ (HG.out.keep HB0.out).m (HG.out.keep HB0.out).e).mono ?_
    rintro e w1 ⟨a1, c1, rfl, hT, q1⟩
    have HB1 := Lib.hid (btr HB0.out q1)
    have K1 := Lib.hid hT
    clear q1 hT
    go_wp2_with fail
    refine (H2.out _).mono ?_
    rintro e w2 ⟨a2, c2, rfl, hT, q2⟩
    have HB2 := Lib.hid (btr HB1.out q2)
    have K3 := Lib.hid (K1.out.keep q2)
    have K2 := Lib.hid hT
    clear q2 hT
    go_wp2_with fail
    refine (HX.out _ _ _ _ _ K3.out K2.out).mono ?_
    rintro e w3 ⟨rfl, q3⟩
    have HB3 := Lib.hid (btr HB2.out q3)
    clear q3
    go_wp2_with fail
    with_reducible refine (LV.out _ (HG.out.keep HB3.out)).mono ?_
    rintro e w4 ⟨rfl, q4⟩
    have HB4 := Lib.hid (btr HB3.out q4)
    clear q4
    go_wp2_with fail
    go_ret
    exact ⟨rfl, HB4.out⟩
end Go.Proofs.YtpmappddepkhiaaGreatDoor
