/-
  Contracts of package calendar's Add, a closure that counts, and of the document's own.
-/
import Derived.Test.YtgljaopnehdgdaaDoorCH
import Derived.Laws.EntriesVeiled
namespace Go.Proofs.YtgljaopnehdgdaaDoor
open Go Go.RowKit Go.Lib WM

/-- What the closure of Add has captured: the condition, and how many open days are left to go. -/
structure AddW (we ho : List Int) (b1 b2 bo bl : Nat) (n : Int) (W : World) : Prop where
  s : Sets we ho b1 b2 W
  o : W.cell? ⟨bo, 0, none⟩ = some (.func (.func 52) #[] #[.pointer (some ⟨b1, 0, none⟩), .pointer (some ⟨b2, 0, none⟩)])
  l : W.cell? ⟨bl, 0, none⟩ = some (.int .i64 n)
  f : W.frozen? ⟨bl, 0, none⟩ = false
  n1 : bl ≠ b1
  n2 : bl ≠ b2
  n3 : bl ≠ bo
theorem Sets.other {we ho : List Int} {b1 b2 : Nat} {W : World} (h : Sets we ho b1 b2 W) (p : Addr) (h1 : p.block ≠ b1) (h2 : p.block ≠ b2) (v : Value) : Sets we ho b1 b2 (W.setCell p v) := by
  obtain ⟨k, f, a, b, c⟩ := h
  exact ⟨k.other p h1 v, f, a, b.other p h2 v, c⟩
theorem AddW.put {we ho : List Int} {b1 b2 bo bl : Nat} {n : Int} {W : World} (h : AddW we ho b1 b2 bo bl n W) (m : Int) : AddW we ho b1 b2 bo bl m (W.setCell ⟨bl, 0, none⟩ (.int .i64 m)) where
  s := h.s.other _ h.n1 h.n2 _
  o := by rw [World.cell?_setCell_other _ _ _ _ (by intro c; injection c with c _ _; exact h.n3 c)]; exact h.o
  l := World.cell?_setCell_same _ _ _ h.l
  f := by have := h.f; simpa using this
  n1 := h.n1
  n2 := h.n2
  n3 := h.n3

set_option maxRecDepth 100000 in
set_option maxHeartbeats 1000000 in
theorem mAddC_yes (we ho : List Int) (b1 b2 bo bl : Nat) (n day : Int) (hn : 1 ≤ n) (hn2 : n ≤ 1000) (hv : vdB day = true) (hO : dOpen we ho day = true) (w : World) (h : AddW we ho b1 b2 bo bl n w) :
    Calls Tryd.prog 47 #[.int .i64 day, .pointer (some ⟨bo, 0, none⟩), .pointer (some ⟨bl, 0, none⟩)] w fun e w' => e = .returned (.bool (n - 1 == 0)) ∧ w' = w.setCell ⟨bl, 0, none⟩ (.int .i64 (n - 1)) := by
  have C1 := mopen we ho b1 b2 day hv w h.s
  rw [hO] at C1
  have C1 := Lib.hid C1
  have c0 := h.o; have c1 := h.l; have c2 := h.f
  have c3 := (h.put (n - 1)).l
  clear h hv hO
  go_enter Tryd.func47, Tryd.ntmps47
  go_wp2_with fail
  refine (C1.out).mono ?_
  rintro e w1 ⟨rfl, rfl⟩
  go_wp2_with fail
  go_ret
  exact ⟨rfl, rfl⟩
set_option maxRecDepth 100000 in
set_option maxHeartbeats 1000000 in
theorem mAddC_no (we ho : List Int) (b1 b2 bo bl : Nat) (n day : Int) (hn : 1 ≤ n) (hn2 : n ≤ 1000) (hv : vdB day = true) (hO : dOpen we ho day = false) (w : World) (h : AddW we ho b1 b2 bo bl n w) :
    Calls Tryd.prog 47 #[.int .i64 day, .pointer (some ⟨bo, 0, none⟩), .pointer (some ⟨bl, 0, none⟩)] w fun e w' => e = .returned (.bool false) ∧ w' = w := by
  have C1 := mopen we ho b1 b2 day hv w h.s
  rw [hO] at C1
  have C1 := Lib.hid C1
  have c0 := h.o; have c1 := h.l
  have hn0 : (n == 0) = false := by rw [beq_eq_false_iff_ne]; omega
  have hn1 : ¬ n = 0 := by omega
  clear h hv hO
  go_enter Tryd.func47, Tryd.ntmps47
  go_wp2_with fail
  refine (C1.out).mono ?_
  rintro e w1 ⟨rfl, rfl⟩
  go_wp2_with fail
  go_ret
  exact ⟨by rfl, rfl⟩
theorem eg2 : ∀ args w, (callFunc 47 args).run Tryd.prog w = .ok (.enter 47 args) w := enters_of Tryd.func47 (by kernel_rfl) rfl

theorem ad_search (we ho : List Int) (b1 b2 bo bl : Nat) (n day : Int) (hn : 1 ≤ n) (hn2 : n ≤ 1000) (h0 : 0 ≤ day) (h1 : day ≤ 73049) (w0 w : World) (hb : Below w0.heap.size w0 w) (hl : w0.heap.size ≤ bl) (hS : AddW we ho b1 b2 bo bl n w) :
    Calls Tryd.prog 41 #[.int .i64 day, .int .i64 1, .func (.func 47) #[] #[.pointer (some ⟨bo, 0, none⟩), .pointer (some ⟨bl, 0, none⟩)]] w fun e w' =>
      e = .returned (.tuple #[.int .i64 (anV (ad (dOpen we ho) day n)), .int .i64 (anE (ad (dOpen we ho) day n))]) ∧ Below w0.heap.size w0 w' := by
  refine (msearch_up 47 #[.pointer (some ⟨bo, 0, none⟩), .pointer (some ⟨bl, 0, none⟩)] eg2
    (fun d W => ∃ k, 1 ≤ k ∧ k ≤ 1000 ∧ ad (dOpen we ho) d k = ad (dOpen we ho) day n ∧ AddW we ho b1 b2 bo bl k W ∧ Below w0.heap.size w0 W) (fun d W => ad (dOpen we ho) day n = some d ∧ Below w0.heap.size w0 W) ?_ day h0 h1 w ⟨n, hn, hn2, rfl, hS, hb⟩).mono ?_
  · rintro d W hv ⟨k, k1, k2, i1, i2, i3⟩
    have hb := (vd_iff d).1 hv
    cases hO : dOpen we ho d
    · refine (mAddC_no we ho b1 b2 bo bl k d k1 k2 hv hO W i2).mono ?_
      rintro e W' ⟨rfl, rfl⟩
      refine ⟨_, rfl, fun h => (by cases h), fun _ => ⟨k, k1, k2, by rw [ad_miss _ _ _ hb.2 hO (by omega), i1], i2, i3⟩⟩
    · refine (mAddC_yes we ho b1 b2 bo bl k d k1 k2 hv hO W i2).mono ?_
      rintro e W' ⟨rfl, rfl⟩
      refine ⟨_, rfl, fun h => ?_, fun h => ?_⟩
      · have hk : k = 1 := by rw [beq_iff_eq] at h; omega
        subst hk
        exact ⟨by rw [← i1, ad_hit _ _ hb.2 hO], i3.setCell hl _⟩
      · have hk : k ≠ 1 := by rw [beq_eq_false_iff_ne] at h; omega
        exact ⟨k - 1, by omega, by omega, by rw [ad_step _ _ _ hb.2 hO hk, i1], i2.put _, i3.setCell hl _⟩
  · rintro e w' (⟨d, rfl, f1, f2⟩ | ⟨d, hd, rfl, k, _, _, i1, _, i3⟩)
    · rw [f1]; exact ⟨rfl, f2⟩
    · rw [← i1, ad_end _ _ _ hd]; exact ⟨rfl, i3⟩
/-- The two captured variables, as they are laid behind a world that holds the sets. -/
theorem add_new {we ho : List Int} {b1 b2 : Nat} {w : World} (h : Sets we ho b1 b2 w) (n : Int) :
    AddW we ho b1 b2 w.heap.size (w.heap.size + 1) n ((w.alloc (.cells #[.func (.func 52) #[] #[.pointer (some ⟨b1, 0, none⟩), .pointer (some ⟨b2, 0, none⟩)]] 43)).alloc (.cells #[.int .i64 n] 3)) := by
  obtain ⟨h1, f, h2, h3, h4⟩ := h
  have l1 : b1 < w.heap.size := World.block_lt_of_cell? w _ (h1 0 (by decide)).1
  have l2 : b2 < w.heap.size := World.block_lt_of_cell? w _ (h3 0 (by decide)).1
  have hS : Sets we ho b1 b2 w := ⟨h1, f, h2, h3, h4⟩
  refine ⟨hS.keep (bal (bal (bref _) _) _), ?_, ?_, ?_, by omega, by omega, by omega⟩
  · simp [go_sem]
  · simp [go_sem]
  · simp [go_sem]
theorem ad_no (d n : Int) (h : vdB d = false ∨ n < 1 ∨ 1000 < n) : adOk d n = false := by
  unfold adOk
  rcases h with h | h | h
  · rw [h]; rfl
  · rw [show decide (1 ≤ n) = false by simp; omega]; simp
  · rw [show decide (n ≤ 1000) = false by simp; omega]; simp
theorem ad_yes (d n : Int) (h : vdB d = true) (h1 : 1 ≤ n) (h2 : n ≤ 1000) : adOk d n = true := by
  unfold adOk; rw [h]; simp; omega

set_option maxRecDepth 100000 in
set_option maxHeartbeats 1000000 in
theorem mAdd (nm : ByteArray) (wo hp : Option Addr) (wc hc : Nat) (we ho : List Int) (day n : Int) (w : World) (hc0 : CalAt wo hp we ho w) :
    Calls Tryd.prog 26 #[.agg #[.string nm, .slice wo we.length wc, .slice hp ho.length hc], .int .i64 day, .int .i64 n] w fun e w' => e = .returned (.tuple #[.int .i64 (adV we ho day n), .int .i64 (adE we ho day n)]) ∧ Below w.heap.size w w' := by
  have CV := fun W => mvalid day W
  cases hv : vdB day
  · have R1 : Hid (adV we ho day n = 0) := Lib.hid (by unfold adV; rw [ad_no day n (Or.inl hv)]; rfl)
    have R2 : Hid (adE we ho day n = 1) := Lib.hid (by unfold adE; rw [ad_no day n (Or.inl hv)]; rfl)
    rw [R1.out, R2.out]
    rw [hv] at CV
    have CV := Lib.hid CV
    clear hv hc0
    go_enter Tryd.func26, Tryd.ntmps26
    go_wp2_with fail
    refine (CV.out _).mono ?_
    rintro e w1 ⟨rfl, rfl⟩
    go_wp2_with fail
    go_ret2
    exact ⟨rfl, bal (bref _) _⟩
  · rw [hv] at CV
    have CV := Lib.hid CV
    by_cases hn1 : n < 1
    · have R1 : Hid (adV we ho day n = 0) := Lib.hid (by unfold adV; rw [ad_no day n (Or.inr (Or.inl hn1))]; rfl)
      have R2 : Hid (adE we ho day n = 1) := Lib.hid (by unfold adE; rw [ad_no day n (Or.inr (Or.inl hn1))]; rfl)
      rw [R1.out, R2.out]
      clear hv hc0
      go_enter Tryd.func26, Tryd.ntmps26
      go_wp2_with fail
      refine (CV.out _).mono ?_
      rintro e w1 ⟨rfl, rfl⟩
      go_wp2_with fail
      go_ret2
      exact ⟨rfl, bal (bref _) _⟩
    · by_cases hn2 : 1000 < n
      · have R1 : Hid (adV we ho day n = 0) := Lib.hid (by unfold adV; rw [ad_no day n (Or.inr (Or.inr hn2))]; rfl)
        have R2 : Hid (adE we ho day n = 1) := Lib.hid (by unfold adE; rw [ad_no day n (Or.inr (Or.inr hn2))]; rfl)
        rw [R1.out, R2.out]
        clear hv hc0
        go_enter Tryd.func26, Tryd.ntmps26
        go_wp2_with fail
        refine (CV.out _).mono ?_
        rintro e w1 ⟨rfl, rfl⟩
        go_wp2_with fail
        go_ret2
        exact ⟨rfl, bal (bref _) _⟩
      · have R1 : Hid (adV we ho day n = anV (ad (dOpen we ho) (day + 1) n)) := Lib.hid (by unfold adV; rw [ad_yes day n hv (by omega) (by omega)]; rfl)
        have R2 : Hid (adE we ho day n = anE (ad (dOpen we ho) (day + 1) n)) := Lib.hid (by unfold adE; rw [ad_yes day n hv (by omega) (by omega)]; rfl)
        rw [R1.out, R2.out]
        obtain ⟨v1, v2⟩ := (vd_iff day).1 hv
        have C1 := Lib.hid (fun W h => mopening nm wo hp wc hc we ho W h)
        have C2 := Lib.hid (fun b1 b2 bo bl w0 W hb hl h => ad_search we ho b1 b2 bo bl n (day + 1) (by omega) (by omega) (by omega) (by omega) w0 W hb hl h)
        have HC := Lib.hid hc0
        clear hv hc0
        go_enter Tryd.func26, Tryd.ntmps26
        go_wp2_with fail
        refine (CV.out _).mono ?_
        rintro e w1 ⟨rfl, rfl⟩
        go_wp2_with fail
        refine (C1.out _ (HC.out.keep (bal (bref _) _))).mono ?_
        rintro e w1 ⟨b1, b2, rfl, hS, hB⟩
        have B1 := Lib.hid (btr (bal (bref _) _) hB)
        have HA := Lib.hid (add_new hS n)
        have hsz := B1.out.size
        have HB2 := Lib.hid (bal (bal B1.out (.cells #[.func (.func 52) #[] #[.pointer (some ⟨b1, 0, none⟩), .pointer (some ⟨b2, 0, none⟩)]] 43)) (.cells #[.int .i64 n] 3))
        clear hS hB
        go_wp2_with fail
        refine (C2.out _ _ _ _ w _ HB2.out (by omega) HA.out).mono ?_
        rintro e w2 ⟨rfl, q2⟩
        have B2 := Lib.hid q2
        clear q2
        go_wp2_with fail
        go_ret2
        exact ⟨rfl, B2.out⟩

set_option maxRecDepth 100000 in
set_option maxHeartbeats 1000000 in
theorem rAdd (nm : ByteArray) (wo hp : Option Addr) (wc hc : Nat) (we ho : List Int) (day n : Int) (w : World) (hc0 : CalAt wo hp we ho w) :
    Calls Tryd.prog 27 #[.agg #[.string nm, .slice wo we.length wc, .slice hp ho.length hc], .int .i64 day, .int .i64 n] w fun e w' => e = .returned (.tuple #[.int .i64 (adV we ho day n), .int .i64 (adE we ho day n)]) ∧ Below w.heap.size w w' := by
  have CV := fun W => rvalid day W
  cases hv : vdB day
  · have R1 : Hid (adV we ho day n = 0) := Lib.hid (by unfold adV; rw [ad_no day n (Or.inl hv)]; rfl)
    have R2 : Hid (adE we ho day n = 1) := Lib.hid (by unfold adE; rw [ad_no day n (Or.inl hv)]; rfl)
    rw [R1.out, R2.out]
    rw [hv] at CV
    have CV := Lib.hid CV
    clear hv hc0
    go_enter Tryd.func27, Tryd.ntmps27
    go_wp2_with fail
    refine (CV.out _).mono ?_
    rintro e w1 ⟨rfl, rfl⟩
    go_wp2_with fail
    go_ret2
    exact ⟨rfl, bal (bref _) _⟩
  · rw [hv] at CV
    have CV := Lib.hid CV
    by_cases hn1 : n < 1
    · have R1 : Hid (adV we ho day n = 0) := Lib.hid (by unfold adV; rw [ad_no day n (Or.inr (Or.inl hn1))]; rfl)
      have R2 : Hid (adE we ho day n = 1) := Lib.hid (by unfold adE; rw [ad_no day n (Or.inr (Or.inl hn1))]; rfl)
      rw [R1.out, R2.out]
      clear hv hc0
      go_enter Tryd.func27, Tryd.ntmps27
      go_wp2_with fail
      refine (CV.out _).mono ?_
      rintro e w1 ⟨rfl, rfl⟩
      go_wp2_with fail
      go_ret2
      exact ⟨rfl, bal (bref _) _⟩
    · by_cases hn2 : 1000 < n
      · have R1 : Hid (adV we ho day n = 0) := Lib.hid (by unfold adV; rw [ad_no day n (Or.inr (Or.inr hn2))]; rfl)
        have R2 : Hid (adE we ho day n = 1) := Lib.hid (by unfold adE; rw [ad_no day n (Or.inr (Or.inr hn2))]; rfl)
        rw [R1.out, R2.out]
        clear hv hc0
        go_enter Tryd.func27, Tryd.ntmps27
        go_wp2_with fail
        refine (CV.out _).mono ?_
        rintro e w1 ⟨rfl, rfl⟩
        go_wp2_with fail
        go_ret2
        exact ⟨rfl, bal (bref _) _⟩
      · obtain ⟨R, hR⟩ : ∃ R, ad (dOpen we ho) (day + 1) n = R := ⟨_, rfl⟩
        have R1 : Hid (adV we ho day n = anV R) := Lib.hid (by unfold adV; rw [ad_yes day n hv (by omega) (by omega), ← hR]; rfl)
        have R2 : Hid (adE we ho day n = anE R) := Lib.hid (by unfold adE; rw [ad_yes day n hv (by omega) (by omega), ← hR]; rfl)
        rw [R1.out, R2.out]
        have HR := Lib.hid hR
        obtain ⟨v1, v2⟩ := (vd_iff day).1 hv
        have HC := Lib.hid hc0
        clear hv hc0 hR
        go_enter Tryd.func27, Tryd.ntmps27
        go_wp2_with fail
        refine (CV.out _).mono ?_
        rintro e w1 ⟨rfl, rfl⟩
        go_wp2_with fail
        go_loopw [2, 8] (fun y x wr => ∃ d k : Int, y = .int .i64 k ∧ x = .int .i64 d ∧ 0 ≤ d ∧ d ≤ 73049 ∧ 1 ≤ k ∧ k ≤ 1000 ∧ ad (dOpen we ho) d k = R ∧ Box3 w.heap.size (.string nm) (.slice wo we.length wc) (.slice hp ho.length hc) wr ∧ Below w.heap.size w wr) (fun _ x _ => (73049 - RowKit.intOf x).toNat)
        case atStart => exact ⟨day + 1, n, rfl, rfl, by omega, by omega, by omega, by omega, HR.out, box_new nm wo hp wc hc we ho w, bal (bref _) _⟩
        case round =>
          clear HR hn1 hn2
          obtain ⟨d, k, rfl, rfl, d0, d1, k1, k2, hd, hX, hB⟩ := hrel
          have HX := Lib.hid hX
          have HB := Lib.hid hB
          obtain ⟨x0, x1, x2⟩ := hX
          by_cases hin : d ≤ 73048
          · have C1 := fun W h => rOpen nm wo hp wc hc we ho d W h
            rw [opB_of we ho d (vd_yes d (by omega) (by omega))] at C1
            cases hO : dOpen we ho d
            · rw [hO] at C1
              have C1 := Lib.hid C1
              have HN : Hid (ad (dOpen we ho) (d + 1) k = R) := Lib.hid (by rw [ad_miss _ _ _ (by omega) hO (by omega)]; exact hd)
              have hk0 : (k == 0) = false := by rw [beq_eq_false_iff_ne]; omega
              have hk1 : ¬ k = 0 := by omega
              clear hO hd hB
              go_wp2_with fail
              refine (C1.out _ (HC.out.keep HB.out)).mono ?_
              rintro e w1 ⟨rfl, q1⟩
              have X1 := Lib.hid (HX.out.keep q1)
              have B1 := Lib.hid (btr HB.out q1)
              clear q1 x0 x1 x2
              go_wp2_with fail
              go_roundw
              case rel => exact ⟨d + 1, k, rfl, by first | rfl | go_num, by omega, by omega, k1, k2, HN.out, X1.out, B1.out⟩
              case measure => simp [RowKit.intOf]; omega
            · rw [hO] at C1
              have C1 := Lib.hid C1
              by_cases hk : k = 1
              · subst hk
                have HRR : Hid (R = some d) := Lib.hid (by rw [← hd, ad_hit _ _ (by omega) hO])
                clear hO hd hB
                go_wp2_with fail
                refine (C1.out _ (HC.out.keep HB.out)).mono ?_
                rintro e w1 ⟨rfl, q1⟩
                have B1 := Lib.hid (btr HB.out q1)
                clear q1 x0 x1 x2
                go_wp2_with fail
                go_ret2
                exact ⟨by rw [HRR.out]; rfl, B1.out⟩
              · have HN : Hid (ad (dOpen we ho) (d + 1) (k - 1) = R) := Lib.hid (by rw [ad_step _ _ _ (by omega) hO hk]; exact hd)
                have hk0 : (k - 1 == 0) = false := by rw [beq_eq_false_iff_ne]; omega
                have hk1 : ¬ k - 1 = 0 := by omega
                clear hO hd hB
                go_wp2_with fail
                refine (C1.out _ (HC.out.keep HB.out)).mono ?_
                rintro e w1 ⟨rfl, q1⟩
                have X1 := Lib.hid (HX.out.keep q1)
                have B1 := Lib.hid (btr HB.out q1)
                clear q1 x0 x1 x2
                go_wp2_with fail
                go_roundw
                case rel => exact ⟨d + 1, k - 1, by first | rfl | go_num, by first | rfl | go_num, by omega, by omega, by omega, by omega, HN.out, X1.out, B1.out⟩
                case measure => simp [RowKit.intOf]; omega
          · have HRR : Hid (R = none) := Lib.hid (by rw [← hd, ad_end _ _ _ (by omega)])
            clear hd hB
            go_wp2_with fail
            go_ret2
            exact ⟨by rw [HRR.out]; rfl, HB.out⟩
end Go.Proofs.YtgljaopnehdgdaaDoor
