/-
  The walk of the law WideAdds.
-/
import Derived.Test.YtfapcllhcbedlaaDoorLive
import Derived.Test.YtfapcllhcbedlaaDoorRefD
import Derived.Test.YtfapcllhcbedlaaDoorRefE
import Derived.Deep.RegionWith
namespace Go.Proofs.YtfapcllhcbedlaaDoor
open Go Go.RowKit WM

theorem keepA6 {w W W1 : World} {b0 b1 b2 b3 b4 b5 : Nat} {x0 y0 x1 y1 x2 y2 x3 y3 x4 y4 x5 y5 : Value} (h : W.cell? ⟨b0, 0, none⟩ = some x0 ∧ W.cell? ⟨b0, 1, none⟩ = some y0 ∧ W.cell? ⟨b1, 0, none⟩ = some x1 ∧ W.cell? ⟨b1, 1, none⟩ = some y1 ∧ W.cell? ⟨b2, 0, none⟩ = some x2 ∧ W.cell? ⟨b2, 1, none⟩ = some y2 ∧ W.cell? ⟨b3, 0, none⟩ = some x3 ∧ W.cell? ⟨b3, 1, none⟩ = some y3 ∧ W.cell? ⟨b4, 0, none⟩ = some x4 ∧ W.cell? ⟨b4, 1, none⟩ = some y4 ∧ W.cell? ⟨b5, 0, none⟩ = some x5 ∧ W.cell? ⟨b5, 1, none⟩ = some y5 ∧ Tb W ∧ Below w.heap.size w W) (hk : Below W.heap.size W W1) :
    W1.cell? ⟨b0, 0, none⟩ = some x0 ∧ W1.cell? ⟨b0, 1, none⟩ = some y0 ∧ W1.cell? ⟨b1, 0, none⟩ = some x1 ∧ W1.cell? ⟨b1, 1, none⟩ = some y1 ∧ W1.cell? ⟨b2, 0, none⟩ = some x2 ∧ W1.cell? ⟨b2, 1, none⟩ = some y2 ∧ W1.cell? ⟨b3, 0, none⟩ = some x3 ∧ W1.cell? ⟨b3, 1, none⟩ = some y3 ∧ W1.cell? ⟨b4, 0, none⟩ = some x4 ∧ W1.cell? ⟨b4, 1, none⟩ = some y4 ∧ W1.cell? ⟨b5, 0, none⟩ = some x5 ∧ W1.cell? ⟨b5, 1, none⟩ = some y5 ∧ Tb W1 ∧ Below w.heap.size w W1 := by
  obtain ⟨h0, h1, h2, h3, h4, h5, h6, h7, h8, h9, h10, h11, ht, hb⟩ := h
  exact ⟨keepc hk h0, keepc hk h1, keepc hk h2, keepc hk h3, keepc hk h4, keepc hk h5, keepc hk h6, keepc hk h7, keepc hk h8, keepc hk h9, keepc hk h10, keepc hk h11, ht.keep hk, btr hb hk⟩

set_option maxRecDepth 100000 in
set_option maxHeartbeats 8000000 in
theorem adds_any (ha la hb lb : Int) (h1 : I64 ha) (h2 : U64 la) (h3 : I64 hb) (h4 : U64 lb) (w : World) (ht : Tb w) :
    Calls Tryd.prog 3 #[.agg #[.int .i64 ha, .int .u64 la], .agg #[.int .i64 hb, .int .u64 lb]] w fun e w' => e = .returned (.bool true) ∧ Below w.heap.size w w' := by
  have C1 := fun W => add_any ha la hb lb h1 h2 h3 h4 W
  have C2 := fun W => radd_any ha la hb lb h1 h2 h3 h4 W
  have C3 := fun W => sub_any ha la hb lb h1 h2 h3 h4 W
  have C4 := fun W => rsub_any ha la hb lb h1 h2 h3 h4 W
  have C5 := fun W => cmp_any ha la hb lb h2 h4 W
  have C6 := fun W => rcmp_any ha la hb lb h2 h4 W
  obtain ⟨s, hs⟩ : ∃ s, val ha la + val hb lb = s := ⟨_, rfl⟩
  obtain ⟨d, hd⟩ : ∃ d, val ha la - val hb lb = d := ⟨_, rfl⟩
  obtain ⟨c, hc⟩ : ∃ c, cmpW (val ha la) (val hb lb) = c := ⟨_, rfl⟩
  simp only [hs, hd, hc] at C1 C2 C3 C4 C5 C6
  obtain ⟨es, hes⟩ : ∃ x, wE s = x := ⟨_, rfl⟩
  obtain ⟨ed, hed⟩ : ∃ x, wE d = x := ⟨_, rfl⟩
  obtain ⟨sh, hsh⟩ : ∃ x, wH s = x := ⟨_, rfl⟩
  obtain ⟨sl, hsl⟩ : ∃ x, wL s = x := ⟨_, rfl⟩
  obtain ⟨dh, hdh⟩ : ∃ x, wH d = x := ⟨_, rfl⟩
  obtain ⟨dl, hdl⟩ : ∃ x, wL d = x := ⟨_, rfl⟩
  simp only [hes, hed, hsh, hsl, hdh, hdl] at C1 C2 C3 C4
  have C1 := Lib.hid C1; have C2 := Lib.hid C2; have C3 := Lib.hid C3; have C4 := Lib.hid C4; have C5 := Lib.hid C5; have C6 := Lib.hid C6
  clear hs hd hc hes hed hsh hsl hdh hdl
  go_enter Tryd.func3, Tryd.ntmps3
  have A0 := Own.al (Own.new w (.int .i64 ha) (.int .u64 la) 24) (.cells #[.int .i64 hb, .int .u64 lb] 24)
  have B0 := Own.new2 w (.cells #[.int .i64 ha, .int .u64 la] 24) (.int .i64 hb) (.int .u64 lb) 24
  go_wp2_with fail
  refine (C1.out _).mono ?_
  rintro e w1 ⟨rfl, q1⟩
  have A1 := (A0.keep q1).al (.cells #[.int .i64 sh, .int .u64 sl] 24)
  have B1 := (B0.keep q1).al (.cells #[.int .i64 sh, .int .u64 sl] 24)
  have P1 := Own.new w1 (.int .i64 sh) (.int .u64 sl) 24
  have Z1 := bal (btr (bal (bal (bref w) _) _) q1) (.cells #[.int .i64 sh, .int .u64 sl] 24)
  have zA1 := (A0.keep q1).lt
  have zB1 := (B0.keep q1).lt
  clear A0 B0 q1
  have AX := A1; have BX := B1
  obtain ⟨f1, f2, _, _⟩ := AX; obtain ⟨f3, f4, _, _⟩ := BX
  go_wp2_with fail
  clear f1 f2 f3 f4
  refine (C2.out _).mono ?_
  rintro e w2 ⟨rfl, q2⟩
  have A2 := (A1.keep q2).al (.cells #[.int .i64 sh, .int .u64 sl] 24)
  have B2 := (B1.keep q2).al (.cells #[.int .i64 sh, .int .u64 sl] 24)
  have P2 := (P1.keep q2).al (.cells #[.int .i64 sh, .int .u64 sl] 24)
  have Q2 := Own.new w2 (.int .i64 sh) (.int .u64 sl) 24
  have Z2 := bal (btr Z1 q2) (.cells #[.int .i64 sh, .int .u64 sl] 24)
  have zA2 := (A1.keep q2).lt
  have zB2 := (B1.keep q2).lt
  have zP2 := (P1.keep q2).lt
  clear A1 B1 P1 Z1 q2
  have AX := A2; have BX := B2
  obtain ⟨f1, f2, _, _⟩ := AX; obtain ⟨f3, f4, _, _⟩ := BX
  go_wp2_with fail
  clear f1 f2 f3 f4
  refine (C3.out _).mono ?_
  rintro e w3 ⟨rfl, q3⟩
  have A3 := (A2.keep q3).al (.cells #[.int .i64 dh, .int .u64 dl] 24)
  have B3 := (B2.keep q3).al (.cells #[.int .i64 dh, .int .u64 dl] 24)
  have P3 := (P2.keep q3).al (.cells #[.int .i64 dh, .int .u64 dl] 24)
  have Q3 := (Q2.keep q3).al (.cells #[.int .i64 dh, .int .u64 dl] 24)
  have U3 := Own.new w3 (.int .i64 dh) (.int .u64 dl) 24
  have Z3 := bal (btr Z2 q3) (.cells #[.int .i64 dh, .int .u64 dl] 24)
  have zA3 := (A2.keep q3).lt
  have zB3 := (B2.keep q3).lt
  have zP3 := (P2.keep q3).lt
  have zQ3 := (Q2.keep q3).lt
  clear A2 B2 P2 Q2 Z2 q3
  have AX := A3; have BX := B3
  obtain ⟨f1, f2, _, _⟩ := AX; obtain ⟨f3, f4, _, _⟩ := BX
  go_wp2_with fail
  clear f1 f2 f3 f4
  refine (C4.out _).mono ?_
  rintro e w4 ⟨rfl, q4⟩
  have A4 := (A3.keep q4).al (.cells #[.int .i64 dh, .int .u64 dl] 24)
  have B4 := (B3.keep q4).al (.cells #[.int .i64 dh, .int .u64 dl] 24)
  have P4 := (P3.keep q4).al (.cells #[.int .i64 dh, .int .u64 dl] 24)
  have Q4 := (Q3.keep q4).al (.cells #[.int .i64 dh, .int .u64 dl] 24)
  have U4 := (U3.keep q4).al (.cells #[.int .i64 dh, .int .u64 dl] 24)
  have V4 := Own.new w4 (.int .i64 dh) (.int .u64 dl) 24
  have Z4 := bal (btr Z3 q4) (.cells #[.int .i64 dh, .int .u64 dl] 24)
  have zA4 := (A3.keep q4).lt
  have zB4 := (B3.keep q4).lt
  have zP4 := (P3.keep q4).lt
  have zQ4 := (Q3.keep q4).lt
  have zU4 := (U3.keep q4).lt
  clear A3 B3 P3 Q3 U3 Z3 q4
  obtain ⟨cA0, cA1, _, _⟩ := A4
  obtain ⟨cB0, cB1, _, _⟩ := B4
  obtain ⟨cP0, cP1, _, _⟩ := P4
  obtain ⟨cQ0, cQ1, _, _⟩ := Q4
  obtain ⟨cU0, cU1, _, _⟩ := U4
  obtain ⟨cV0, cV1, _, _⟩ := V4
  go_wp2_with fail
  have TZ := ht.keep Z4
  obtain ⟨WX, hWX⟩ : ∃ X, w4.alloc (.cells #[.int .i64 dh, .int .u64 dl] 24) = X := ⟨_, rfl⟩
  rw [hWX] at cA0 cA1 cB0 cB1 cP0 cP1 cQ0 cQ1 cU0 cU1 cV0 cV1 Z4 TZ ⊢
  clear hWX
  generalize w1.heap.size = n1 at *
  generalize w2.heap.size = n2 at *
  generalize w3.heap.size = n3 at *
  generalize w4.heap.size = n4 at *
  have K := And.intro (show WX.drew.cell? _ = _ from cA0) (And.intro (show WX.drew.cell? _ = _ from cA1) (And.intro (show WX.drew.cell? _ = _ from cB0) (And.intro (show WX.drew.cell? _ = _ from cB1) (And.intro (show WX.drew.cell? _ = _ from cP0) (And.intro (show WX.drew.cell? _ = _ from cP1) (And.intro (show WX.drew.cell? _ = _ from cQ0) (And.intro (show WX.drew.cell? _ = _ from cQ1) (And.intro (show WX.drew.cell? _ = _ from cU0) (And.intro (show WX.drew.cell? _ = _ from cU1) (And.intro (show WX.drew.cell? _ = _ from cV0) (And.intro (show WX.drew.cell? _ = _ from cV1) (And.intro (ht.keep (bdr Z4)) (bdr Z4)))))))))))))
  go_region_held3 (fun W => W.cell? ⟨w.heap.size, 0, none⟩ = some (.int .i64 ha) ∧ W.cell? ⟨w.heap.size, 1, none⟩ = some (.int .u64 la) ∧ W.cell? ⟨w.heap.size + 1, 0, none⟩ = some (.int .i64 hb) ∧ W.cell? ⟨w.heap.size + 1, 1, none⟩ = some (.int .u64 lb) ∧ W.cell? ⟨n1, 0, none⟩ = some (.int .i64 sh) ∧ W.cell? ⟨n1, 1, none⟩ = some (.int .u64 sl) ∧ W.cell? ⟨n2, 0, none⟩ = some (.int .i64 sh) ∧ W.cell? ⟨n2, 1, none⟩ = some (.int .u64 sl) ∧ W.cell? ⟨n3, 0, none⟩ = some (.int .i64 dh) ∧ W.cell? ⟨n3, 1, none⟩ = some (.int .u64 dl) ∧ W.cell? ⟨n4, 0, none⟩ = some (.int .i64 dh) ∧ W.cell? ⟨n4, 1, none⟩ = some (.int .u64 dl) ∧ Tb W ∧ Below w.heap.size w W)
    (first | exact K | exact keepA6 (by assumption) hk | (go_split_ands; exact keepA6 ⟨by assumption, by assumption, by assumption, by assumption, by assumption, by assumption, by assumption, by assumption, by assumption, by assumption, by assumption, by assumption, by assumption, by assumption⟩ hk))
    (first
      | (go_at_call 22; refine (C5.out _).mono ?_; rintro e W1 ⟨rfl, hk⟩)
      | (go_at_call 23; refine (C6.out _).mono ?_; rintro e W1 ⟨rfl, hk⟩)
      | (go_at_call 24; (try go_split_ands); refine (live_any _ ?_).mono ?_; (first | assumption | exact ht.keep (bdr Z4)); rintro e W1 ⟨rfl, hk⟩))
  go_wp2_with fail
  (try go_split_ands)
  go_ret
  exact ⟨rfl, by first | assumption | exact btr (by assumption) hk⟩
end Go.Proofs.YtfapcllhcbedlaaDoor
