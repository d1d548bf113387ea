/-
  Contracts of package calendar's Next and Prev, and of the document's own.
-/
import Derived.Test.YtgljaopnehdgdaaDoorCF
namespace Go.Proofs.YtgljaopnehdgdaaDoor
open Go Go.RowKit Go.Lib WM

theorem eg1 : ∀ args w, (callFunc 52 args).run Tryd.prog w = .ok (.enter 52 args) w := enters_of Tryd.func52 (by kernel_rfl) rfl

theorem up_search (we ho : List Int) (b1 b2 : Nat) (day : Int) (h0 : 0 ≤ day) (h1 : day ≤ 73049) (w : World) (hS : Sets we ho b1 b2 w) :
    Calls Tryd.prog 41 #[.int .i64 day, .int .i64 1, .func (.func 52) #[] #[.pointer (some ⟨b1, 0, none⟩), .pointer (some ⟨b2, 0, none⟩)]] w fun e w' =>
      e = .returned (.tuple #[.int .i64 (anV (up (dOpen we ho) day)), .int .i64 (anE (up (dOpen we ho) day))]) ∧ Below w.heap.size w w' := by
  refine (msearch_up 52 #[.pointer (some ⟨b1, 0, none⟩), .pointer (some ⟨b2, 0, none⟩)] eg1
    (fun d W => up (dOpen we ho) d = up (dOpen we ho) day ∧ Sets we ho b1 b2 W ∧ Below w.heap.size w W) (fun d W => up (dOpen we ho) day = some d ∧ Below w.heap.size w W) ?_ day h0 h1 w ⟨rfl, hS, bref _⟩).mono ?_
  · rintro d W hv ⟨i1, i2, i3⟩
    have hb := (vd_iff d).1 hv
    refine (mopen we ho b1 b2 d hv W i2).mono ?_
    rintro e W' ⟨rfl, rfl⟩
    refine ⟨_, rfl, fun h => ⟨by rw [← i1, up_hit _ _ hb.2 h], i3⟩, fun h => ⟨by rw [up_miss _ _ hb.2 h, i1], i2, i3⟩⟩
  · rintro e w' (⟨d, rfl, f1, f2⟩ | ⟨d, hd, rfl, i1, _, i3⟩)
    · rw [f1]; exact ⟨rfl, f2⟩
    · rw [← i1, up_end _ _ hd]; exact ⟨rfl, i3⟩
theorem dn_search (we ho : List Int) (b1 b2 : Nat) (day : Int) (h0 : -1 ≤ day) (h1 : day ≤ 73048) (w : World) (hS : Sets we ho b1 b2 w) :
    Calls Tryd.prog 41 #[.int .i64 day, .int .i64 (-1), .func (.func 52) #[] #[.pointer (some ⟨b1, 0, none⟩), .pointer (some ⟨b2, 0, none⟩)]] w fun e w' =>
      e = .returned (.tuple #[.int .i64 (anV (dn (dOpen we ho) day)), .int .i64 (anE (dn (dOpen we ho) day))]) ∧ Below w.heap.size w w' := by
  refine (msearch_dn 52 #[.pointer (some ⟨b1, 0, none⟩), .pointer (some ⟨b2, 0, none⟩)] eg1
    (fun d W => dn (dOpen we ho) d = dn (dOpen we ho) day ∧ Sets we ho b1 b2 W ∧ Below w.heap.size w W) (fun d W => dn (dOpen we ho) day = some d ∧ Below w.heap.size w W) ?_ day h0 h1 w ⟨rfl, hS, bref _⟩).mono ?_
  · rintro d W hv ⟨i1, i2, i3⟩
    have hb := (vd_iff d).1 hv
    refine (mopen we ho b1 b2 d hv W i2).mono ?_
    rintro e W' ⟨rfl, rfl⟩
    refine ⟨_, rfl, fun h => ⟨by rw [← i1, dn_hit _ _ hb.1 h], i3⟩, fun h => ⟨by rw [dn_miss _ _ hb.1 h, i1], i2, i3⟩⟩
  · rintro e w' (⟨d, rfl, f1, f2⟩ | ⟨d, hd, rfl, i1, _, i3⟩)
    · rw [f1]; exact ⟨rfl, f2⟩
    · rw [← i1, dn_end _ _ hd]; exact ⟨rfl, i3⟩
/-- Three cells of a block. -/
def Box3 (b : Nat) (x y z : Value) (W : World) : Prop := W.cell? ⟨b, 0, none⟩ = some x ∧ W.cell? ⟨b, 1, none⟩ = some y ∧ W.cell? ⟨b, 2, none⟩ = some z
theorem Box3.keep {b : Nat} {x y z : Value} {w w' : World} (h : Box3 b x y z w) (hb : Below w.heap.size w w') : Box3 b x y z w' := by
  have hl : b < w.heap.size := World.block_lt_of_cell? w _ h.1
  exact ⟨(hb.cell (p := ⟨b, 0, none⟩) hl).trans h.1, (hb.cell (p := ⟨b, 1, none⟩) hl).trans h.2.1, (hb.cell (p := ⟨b, 2, none⟩) hl).trans h.2.2⟩

set_option maxRecDepth 100000 in
set_option maxHeartbeats 1000000 in
theorem mNext (nm : ByteArray) (wo hp : Option Addr) (wc hc : Nat) (we ho : List Int) (day : Int) (w : World) (hc0 : CalAt wo hp we ho w) :
    Calls Tryd.prog 18 #[.agg #[.string nm, .slice wo we.length wc, .slice hp ho.length hc], .int .i64 day] w fun e w' => e = .returned (.tuple #[.int .i64 (nxV we ho day), .int .i64 (nxE we ho day)]) ∧ Below w.heap.size w w' := by
  have CV := fun W => mvalid day W
  cases hv : vdB day
  · have R1 : Hid (nxV we ho day = 0) := Lib.hid (by unfold nxV; rw [hv]; rfl)
    have R2 : Hid (nxE we ho day = 1) := Lib.hid (by unfold nxE; rw [hv]; rfl)
    rw [R1.out, R2.out]
    rw [hv] at CV
    have CV := Lib.hid CV
    clear hv hc0
    go_enter Tryd.func18, Tryd.ntmps18
    go_wp2_with fail
    refine (CV.out _).mono ?_
    rintro e w1 ⟨rfl, rfl⟩
    go_wp2_with fail
    go_ret2
    exact ⟨rfl, bal (bref _) _⟩
  · have R1 : Hid (nxV we ho day = anV (up (dOpen we ho) day)) := Lib.hid (by unfold nxV; rw [hv]; rfl)
    have R2 : Hid (nxE we ho day = anE (up (dOpen we ho) day)) := Lib.hid (by unfold nxE; rw [hv]; rfl)
    rw [R1.out, R2.out]
    obtain ⟨v1, v2⟩ := (vd_iff day).1 hv
    rw [hv] at CV
    have CV := Lib.hid CV
    have C1 := Lib.hid (fun W h => mopening nm wo hp wc hc we ho W h)
    have C2 := Lib.hid (fun b1 b2 W h => up_search we ho b1 b2 day (by omega) (by omega) W h)
    have HC := Lib.hid hc0
    clear hv hc0
    go_enter Tryd.func18, Tryd.ntmps18
    go_wp2_with fail
    refine (CV.out _).mono ?_
    rintro e w1 ⟨rfl, rfl⟩
    go_wp2_with fail
    refine (C1.out _ (HC.out.keep (bal (bref _) _))).mono ?_
    rintro e w1 ⟨b1, b2, rfl, hS, hB⟩
    have B1 := Lib.hid (btr (bal (bref _) _) hB)
    have HS := Lib.hid hS
    clear hS hB
    go_wp2_with fail
    refine (C2.out _ _ _ HS.out).mono ?_
    rintro e w2 ⟨rfl, q2⟩
    have B2 := Lib.hid (btr B1.out q2)
    clear q2
    go_wp2_with fail
    go_ret2
    exact ⟨rfl, B2.out⟩

set_option maxRecDepth 100000 in
set_option maxHeartbeats 1000000 in
theorem mPrev (nm : ByteArray) (wo hp : Option Addr) (wc hc : Nat) (we ho : List Int) (day : Int) (w : World) (hc0 : CalAt wo hp we ho w) :
    Calls Tryd.prog 20 #[.agg #[.string nm, .slice wo we.length wc, .slice hp ho.length hc], .int .i64 day] w fun e w' => e = .returned (.tuple #[.int .i64 (pvV we ho day), .int .i64 (pvE we ho day)]) ∧ Below w.heap.size w w' := by
  have CV := fun W => mvalid day W
  cases hv : vdB day
  · have R1 : Hid (pvV we ho day = 0) := Lib.hid (by unfold pvV; rw [hv]; rfl)
    have R2 : Hid (pvE we ho day = 1) := Lib.hid (by unfold pvE; rw [hv]; rfl)
    rw [R1.out, R2.out]
    rw [hv] at CV
    have CV := Lib.hid CV
    clear hv hc0
    go_enter Tryd.func20, Tryd.ntmps20
    go_wp2_with fail
    refine (CV.out _).mono ?_
    rintro e w1 ⟨rfl, rfl⟩
    go_wp2_with fail
    go_ret2
    exact ⟨rfl, bal (bref _) _⟩
  · have R1 : Hid (pvV we ho day = anV (dn (dOpen we ho) day)) := Lib.hid (by unfold pvV; rw [hv]; rfl)
    have R2 : Hid (pvE we ho day = anE (dn (dOpen we ho) day)) := Lib.hid (by unfold pvE; rw [hv]; rfl)
    rw [R1.out, R2.out]
    obtain ⟨v1, v2⟩ := (vd_iff day).1 hv
    rw [hv] at CV
    have CV := Lib.hid CV
    have C1 := Lib.hid (fun W h => mopening nm wo hp wc hc we ho W h)
    have C2 := Lib.hid (fun b1 b2 W h => dn_search we ho b1 b2 day (by omega) (by omega) W h)
    have HC := Lib.hid hc0
    clear hv hc0
    go_enter Tryd.func20, Tryd.ntmps20
    go_wp2_with fail
    refine (CV.out _).mono ?_
    rintro e w1 ⟨rfl, rfl⟩
    go_wp2_with fail
    refine (C1.out _ (HC.out.keep (bal (bref _) _))).mono ?_
    rintro e w1 ⟨b1, b2, rfl, hS, hB⟩
    have B1 := Lib.hid (btr (bal (bref _) _) hB)
    have HS := Lib.hid hS
    clear hS hB
    go_wp2_with fail
    refine (C2.out _ _ _ HS.out).mono ?_
    rintro e w2 ⟨rfl, q2⟩
    have B2 := Lib.hid (btr B1.out q2)
    clear q2
    go_wp2_with fail
    go_ret2
    exact ⟨rfl, B2.out⟩

set_option maxRecDepth 100000 in
set_option maxHeartbeats 1000000 in
theorem rNext (nm : ByteArray) (wo hp : Option Addr) (wc hc : Nat) (we ho : List Int) (day : Int) (w : World) (hc0 : CalAt wo hp we ho w) :
    Calls Tryd.prog 19 #[.agg #[.string nm, .slice wo we.length wc, .slice hp ho.length hc], .int .i64 day] w fun e w' => e = .returned (.tuple #[.int .i64 (nxV we ho day), .int .i64 (nxE we ho day)]) ∧ Below w.heap.size w w' := by
  have CV := fun W => rvalid day W
  cases hv : vdB day
  · have R1 : Hid (nxV we ho day = 0) := Lib.hid (by unfold nxV; rw [hv]; rfl)
    have R2 : Hid (nxE we ho day = 1) := Lib.hid (by unfold nxE; rw [hv]; rfl)
    rw [R1.out, R2.out]
    rw [hv] at CV
    have CV := Lib.hid CV
    clear hv hc0
    go_enter Tryd.func19, Tryd.ntmps19
    go_wp2_with fail
    refine (CV.out _).mono ?_
    rintro e w1 ⟨rfl, rfl⟩
    go_wp2_with fail
    go_ret2
    exact ⟨rfl, bal (bref _) _⟩
  · obtain ⟨R, hR⟩ : ∃ R, up (dOpen we ho) day = R := ⟨_, rfl⟩
    have R1 : Hid (nxV we ho day = anV R) := Lib.hid (by unfold nxV; rw [hv, ← hR]; rfl)
    have R2 : Hid (nxE we ho day = anE R) := Lib.hid (by unfold nxE; rw [hv, ← hR]; rfl)
    rw [R1.out, R2.out]
    have HR := Lib.hid hR
    obtain ⟨v1, v2⟩ := (vd_iff day).1 hv
    rw [hv] at CV
    have CV := Lib.hid CV
    have HC := Lib.hid hc0
    clear hv hc0 hR
    go_enter Tryd.func19, Tryd.ntmps19
    go_wp2_with fail
    refine (CV.out _).mono ?_
    rintro e w1 ⟨rfl, rfl⟩
    go_wp2_with fail
    go_loopw [6] (fun x wr => ∃ d : Int, x = .int .i64 d ∧ 0 ≤ d ∧ d ≤ 73049 ∧ up (dOpen we ho) d = R ∧ Box3 w.heap.size (.string nm) (.slice wo we.length wc) (.slice hp ho.length hc) wr ∧ Below w.heap.size w wr) (fun x _ => (73049 - RowKit.intOf x).toNat)
    case atStart => exact ⟨day, rfl, by omega, by omega, HR.out, by refine ⟨?_, ?_, ?_⟩ <;> simp [go_sem], bal (bref _) _⟩
    case round =>
      obtain ⟨d, rfl, d0, d1, hd, hX, hB⟩ := hrel
      have HX := Lib.hid hX
      have HB := Lib.hid hB
      obtain ⟨x0, x1, x2⟩ := hX
      by_cases hin : d ≤ 73048
      · have C1 := fun W h => rOpen nm wo hp wc hc we ho d W h
        rw [opB_of we ho d (vd_yes d (by omega) (by omega))] at C1
        cases hO : dOpen we ho d
        · rw [hO] at C1
          have C1 := Lib.hid C1
          have HN : Hid (up (dOpen we ho) (d + 1) = R) := Lib.hid (by rw [up_miss _ _ (by omega) hO]; exact hd)
          clear hO hd hB
          go_wp2_with fail
          refine (C1.out _ (HC.out.keep HB.out)).mono ?_
          rintro e w1 ⟨rfl, q1⟩
          have X1 := Lib.hid (HX.out.keep q1)
          have B1 := Lib.hid (btr HB.out q1)
          clear q1 x0 x1 x2
          go_wp2_with fail
          go_roundw
          case rel => exact ⟨d + 1, by first | rfl | go_num, by omega, by omega, HN.out, X1.out, B1.out⟩
          case measure => simp [RowKit.intOf]; omega
        · rw [hO] at C1
          have C1 := Lib.hid C1
          have HRR : Hid (R = some d) := Lib.hid (by rw [← hd, up_hit _ _ (by omega) hO])
          clear hO hd hB
          go_wp2_with fail
          refine (C1.out _ (HC.out.keep HB.out)).mono ?_
          rintro e w1 ⟨rfl, q1⟩
          have B1 := Lib.hid (btr HB.out q1)
          clear q1 x0 x1 x2
          go_wp2_with fail
          go_ret2
          exact ⟨by rw [HRR.out]; rfl, B1.out⟩
      · have HRR : Hid (R = none) := Lib.hid (by rw [← hd, up_end _ _ (by omega)])
        clear hd hB
        go_wp2_with fail
        go_ret2
        exact ⟨by rw [HRR.out]; rfl, HB.out⟩

set_option maxRecDepth 100000 in
set_option maxHeartbeats 1000000 in
theorem rPrev (nm : ByteArray) (wo hp : Option Addr) (wc hc : Nat) (we ho : List Int) (day : Int) (w : World) (hc0 : CalAt wo hp we ho w) :
    Calls Tryd.prog 21 #[.agg #[.string nm, .slice wo we.length wc, .slice hp ho.length hc], .int .i64 day] w fun e w' => e = .returned (.tuple #[.int .i64 (pvV we ho day), .int .i64 (pvE we ho day)]) ∧ Below w.heap.size w w' := by
  have CV := fun W => rvalid day W
  cases hv : vdB day
  · have R1 : Hid (pvV we ho day = 0) := Lib.hid (by unfold pvV; rw [hv]; rfl)
    have R2 : Hid (pvE we ho day = 1) := Lib.hid (by unfold pvE; rw [hv]; rfl)
    rw [R1.out, R2.out]
    rw [hv] at CV
    have CV := Lib.hid CV
    clear hv hc0
    go_enter Tryd.func21, Tryd.ntmps21
    go_wp2_with fail
    refine (CV.out _).mono ?_
    rintro e w1 ⟨rfl, rfl⟩
    go_wp2_with fail
    go_ret2
    exact ⟨rfl, bal (bref _) _⟩
  · obtain ⟨R, hR⟩ : ∃ R, dn (dOpen we ho) day = R := ⟨_, rfl⟩
    have R1 : Hid (pvV we ho day = anV R) := Lib.hid (by unfold pvV; rw [hv, ← hR]; rfl)
    have R2 : Hid (pvE we ho day = anE R) := Lib.hid (by unfold pvE; rw [hv, ← hR]; rfl)
    rw [R1.out, R2.out]
    have HR := Lib.hid hR
    obtain ⟨v1, v2⟩ := (vd_iff day).1 hv
    rw [hv] at CV
    have CV := Lib.hid CV
    have HC := Lib.hid hc0
    clear hv hc0 hR
    go_enter Tryd.func21, Tryd.ntmps21
    go_wp2_with fail
    refine (CV.out _).mono ?_
    rintro e w1 ⟨rfl, rfl⟩
    go_wp2_with fail
    go_loopw [6] (fun x wr => ∃ d : Int, x = .int .i64 d ∧ -1 ≤ d ∧ d ≤ 73048 ∧ dn (dOpen we ho) d = R ∧ Box3 w.heap.size (.string nm) (.slice wo we.length wc) (.slice hp ho.length hc) wr ∧ Below w.heap.size w wr) (fun x _ => (RowKit.intOf x + 1).toNat)
    case atStart => exact ⟨day, rfl, by omega, by omega, HR.out, by refine ⟨?_, ?_, ?_⟩ <;> simp [go_sem], bal (bref _) _⟩
    case round =>
      obtain ⟨d, rfl, d0, d1, hd, hX, hB⟩ := hrel
      have HX := Lib.hid hX
      have HB := Lib.hid hB
      obtain ⟨x0, x1, x2⟩ := hX
      by_cases hin : 0 ≤ d
      · have C1 := fun W h => rOpen nm wo hp wc hc we ho d W h
        rw [opB_of we ho d (vd_yes d (by omega) (by omega))] at C1
        cases hO : dOpen we ho d
        · rw [hO] at C1
          have C1 := Lib.hid C1
          have HN : Hid (dn (dOpen we ho) (d - 1) = R) := Lib.hid (by rw [dn_miss _ _ (by omega) hO]; exact hd)
          clear hO hd hB
          go_wp2_with fail
          refine (C1.out _ (HC.out.keep HB.out)).mono ?_
          rintro e w1 ⟨rfl, q1⟩
          have X1 := Lib.hid (HX.out.keep q1)
          have B1 := Lib.hid (btr HB.out q1)
          clear q1 x0 x1 x2
          go_wp2_with fail
          go_roundw
          case rel => exact ⟨d - 1, by first | rfl | go_num, by omega, by omega, HN.out, X1.out, B1.out⟩
          case measure => simp [RowKit.intOf]; omega
        · rw [hO] at C1
          have C1 := Lib.hid C1
          have HRR : Hid (R = some d) := Lib.hid (by rw [← hd, dn_hit _ _ (by omega) hO])
          clear hO hd hB
          go_wp2_with fail
          refine (C1.out _ (HC.out.keep HB.out)).mono ?_
          rintro e w1 ⟨rfl, q1⟩
          have B1 := Lib.hid (btr HB.out q1)
          clear q1 x0 x1 x2
          go_wp2_with fail
          go_ret2
          exact ⟨by rw [HRR.out]; rfl, B1.out⟩
      · have HRR : Hid (R = none) := Lib.hid (by rw [← hd, dn_end _ _ (by omega)])
        clear hd hB
        go_wp2_with fail
        go_ret2
        exact ⟨by rw [HRR.out]; rfl, HB.out⟩
end Go.Proofs.YtgljaopnehdgdaaDoor
