/-
  The walk of the law WideTexts.
-/
import Derived.Test.YtfapcllhcbedlaaDoorLive
import Derived.Test.YtfapcllhcbedlaaDoorRefText
import Derived.Test.YtfapcllhcbedlaaDoorRefParse
import Derived.Test.YtfapcllhcbedlaaDoorMathR
import Derived.Deep.RegionWith
namespace Go.Proofs.YtfapcllhcbedlaaDoor
open Go Go.RowKit Go.Lib WM

theorem keepT3 {w W W1 : World} {b0 b1 b2 : Nat} {x0 y0 x1 y1 x2 y2 : Value} (h : W.cell? ⟨b0, 0, none⟩ = some x0 ∧ W.cell? ⟨b0, 1, none⟩ = some y0 ∧ W.cell? ⟨b1, 0, none⟩ = some x1 ∧ W.cell? ⟨b1, 1, none⟩ = some y1 ∧ W.cell? ⟨b2, 0, none⟩ = some x2 ∧ W.cell? ⟨b2, 1, none⟩ = some y2 ∧ Tb W ∧ Below w.heap.size w W) (hk : Below W.heap.size W W1) :
    W1.cell? ⟨b0, 0, none⟩ = some x0 ∧ W1.cell? ⟨b0, 1, none⟩ = some y0 ∧ W1.cell? ⟨b1, 0, none⟩ = some x1 ∧ W1.cell? ⟨b1, 1, none⟩ = some y1 ∧ W1.cell? ⟨b2, 0, none⟩ = some x2 ∧ W1.cell? ⟨b2, 1, none⟩ = some y2 ∧ Tb W1 ∧ Below w.heap.size w W1 := by
  obtain ⟨h0, h1, h2, h3, h4, h5, ht, hb⟩ := h
  exact ⟨keepc hk h0, keepc hk h1, keepc hk h2, keepc hk h3, keepc hk h4, keepc hk h5, ht.keep hk, btr hb hk⟩

set_option maxRecDepth 100000 in
set_option maxHeartbeats 8000000 in
theorem texts_any (a l : Int) (s : ByteArray) (h1 : I64 a) (h2 : U64 l) (hs : s.size ≤ maxLen) (w : World) (ht : Tb w) :
    Calls Tryd.prog 6 #[.agg #[.int .i64 a, .int .u64 l], .string s] w fun e w' => e = .returned (.bool true) ∧ Below w.heap.size w w' := by
  unfold maxLen at hs
  by_cases hbig : 200 < s.size
  · have hb' : (200 : Int) < (s.size : Int) := by omega
    have T1 : Tb (w.alloc (.cells #[.int .i64 a, .int .u64 l] 24)) := ht.keep (bal (bref _) _)
    clear hbig
    go_enter Tryd.func6, Tryd.ntmps6
    go_wp2_with fail
    refine (live_any _ T1).mono ?_
    rintro e w1 ⟨rfl, q1⟩
    have Z1 := btr (bal (bref w) (.cells #[.int .i64 a, .int .u64 l] 24)) q1
    go_wp2_with fail
    go_ret
    exact ⟨rfl, Z1⟩
  · have hb' : (s.size : Int) ≤ 200 := by omega
    have hsmall : s.size ≤ 1000000 := by omega
    have C1 := fun W => parse_any s hsmall W
    have C2 := fun W => rparse_any s hsmall W
    have C3 := fun W hT => text_any a l h1 h2 W hT
    have C4 := fun W => rtext_any a l h1 h2 W
    have mlen := itoa_len (val a l) (inW_val h1 h2)
    obtain ⟨xh, e1⟩ : ∃ x, wH (pV s.data.toList) = x := ⟨_, rfl⟩
    obtain ⟨xl, e2⟩ : ∃ x, wL (pV s.data.toList) = x := ⟨_, rfl⟩
    obtain ⟨xe, e3⟩ : ∃ x, pE s.data.toList = x := ⟨_, rfl⟩
    obtain ⟨T, e4⟩ : ∃ x, str (itoa (val a l)) = x := ⟨_, rfl⟩
    simp only [e1, e2, e3] at C1 C2
    simp only [e4] at C3 C4
    have C1 := Lib.hid C1; have C2 := Lib.hid C2; have C3 := Lib.hid C3; have C4 := Lib.hid C4
    clear e1 e2 e3 e4 mlen hbig
    go_enter Tryd.func6, Tryd.ntmps6
    have A0 := Own.new w (.int .i64 a) (.int .u64 l) 24
    go_wp2_with fail
    refine (C1.out _).mono ?_
    rintro e w1 ⟨rfl, q1⟩
    have A1 := (A0.keep q1).al (.cells #[.int .i64 xh, .int .u64 xl] 24)
    have zA1 := (A0.keep q1).lt
    have P1 := Own.new w1 (.int .i64 xh) (.int .u64 xl) 24
    have Z1 := bal (btr (bal (bref w) _) q1) (.cells #[.int .i64 xh, .int .u64 xl] 24)
    clear A0 q1
    go_wp2_with fail
    refine (C2.out _).mono ?_
    rintro e w2 ⟨rfl, q2⟩
    have A2 := (A1.keep q2).al (.cells #[.int .i64 xh, .int .u64 xl] 24)
    have zA2 := (A1.keep q2).lt
    have P2 := (P1.keep q2).al (.cells #[.int .i64 xh, .int .u64 xl] 24)
    have zP2 := (P1.keep q2).lt
    have Q2 := Own.new w2 (.int .i64 xh) (.int .u64 xl) 24
    have Z2 := bal (btr Z1 q2) (.cells #[.int .i64 xh, .int .u64 xl] 24)
    clear A1 P1 Z1 q2 zA1
    obtain ⟨cA0, cA1, _, _⟩ := A2
    obtain ⟨cP0, cP1, _, _⟩ := P2
    obtain ⟨cQ0, cQ1, _, _⟩ := Q2
    go_wp2_with fail
    have TZ := ht.keep Z2
    obtain ⟨WX, hWX⟩ : ∃ X, w2.alloc (.cells #[.int .i64 xh, .int .u64 xl] 24) = X := ⟨_, rfl⟩
    rw [hWX] at cA0 cA1 cP0 cP1 cQ0 cQ1 Z2 TZ ⊢
    clear hWX
    generalize w1.heap.size = n1 at *
    generalize w2.heap.size = n2 at *
    have K := And.intro (show WX.drew.cell? _ = _ from cA0) (And.intro (show WX.drew.cell? _ = _ from cA1) (And.intro (show WX.drew.cell? _ = _ from cP0) (And.intro (show WX.drew.cell? _ = _ from cP1) (And.intro (show WX.drew.cell? _ = _ from cQ0) (And.intro (show WX.drew.cell? _ = _ from cQ1) (And.intro (ht.keep (bdr Z2)) (bdr Z2)))))))
    go_region_held3 (fun W => W.cell? ⟨w.heap.size, 0, none⟩ = some (.int .i64 a) ∧ W.cell? ⟨w.heap.size, 1, none⟩ = some (.int .u64 l) ∧ W.cell? ⟨n1, 0, none⟩ = some (.int .i64 xh) ∧ W.cell? ⟨n1, 1, none⟩ = some (.int .u64 xl) ∧ W.cell? ⟨n2, 0, none⟩ = some (.int .i64 xh) ∧ W.cell? ⟨n2, 1, none⟩ = some (.int .u64 xl) ∧ Tb W ∧ Below w.heap.size w W)
      (first | exact K | exact keepT3 (by assumption) hk | (go_split_ands; exact keepT3 ⟨by assumption, by assumption, by assumption, by assumption, by assumption, by assumption, by assumption, by assumption⟩ hk))
      (first
      | (go_at_call 37; (try go_split_ands); refine (C3.out _ ?_).mono ?_; (first | assumption | exact ht.keep (bdr Z2)); rintro e W1 ⟨rfl, hk⟩)
      | (go_at_call 38; refine (C4.out _).mono ?_; rintro e W1 ⟨rfl, hk⟩)
      | (go_at_call 24; (try go_split_ands); refine (live_any _ ?_).mono ?_; (first | assumption | exact ht.keep (bdr Z2)); rintro e W1 ⟨rfl, hk⟩))
    go_wp2_with fail
    (try go_split_ands)
    go_ret
    exact ⟨rfl, by first | assumption | exact btr (by assumption) hk⟩
end Go.Proofs.YtfapcllhcbedlaaDoor
