/-
  The contract of package calendar's opening: the condition for a day to be open, over two sets.
-/
import Derived.Test.YtgljaopnehdgdaaDoorCB
namespace Go.Proofs.YtgljaopnehdgdaaDoor
open Go Go.RowKit Go.Lib WM

/-- A calendar's lists lie in memory. -/
structure CalAt (wo hp : Option Addr) (we ho : List Int) (w : World) : Prop where
  wl : we.length ≤ 1000000
  hl : ho.length ≤ 1000000
  wk : IntsAt wo we w
  hd : IntsAt hp ho w
theorem CalAt.keep {wo hp : Option Addr} {we ho : List Int} {w w' : World} (h : CalAt wo hp we ho w) (hb : Below w.heap.size w w') : CalAt wo hp we ho w' := ⟨h.wl, h.hl, h.wk.keep hb, h.hd.keep hb⟩

theorem TabB.congr {w : World} {b n : Nat} {f g : Nat → Value} (h : TabB w b n f) (e : ∀ i, i < n → g i = f i) : TabB w b n g := by
  intro i hi
  rw [e i hi]; exact h i hi
theorem tk_contains (l : List Int) (k : Nat) (h : k < l.length) (n : Int) : (l.take (k + 1)).contains n = ((l.take k).contains n || (n == l.getD k 0)) := by
  rw [List.take_succ_eq_append_getElem h, List.contains_append]
  have e : l.getD k 0 = l[k] := by simp [List.getD, h]
  rw [e]
  congr 1
  rw [List.contains_cons, List.contains_nil, Bool.or_false]
/-- The set of the weekdays among the first k. -/
def WSet (we : List Int) (k b : Nat) (w : World) : Prop := TabB w b 7 (fun i => .bool ((we.take k).contains (i : Int)))
theorem WSet.keep {we : List Int} {k b : Nat} {w w' : World} (h : WSet we k b w) (hb : Below w.heap.size w w') : WSet we k b w' := TabB.keep h (by decide) hb
theorem WSet.skip {we : List Int} {k b : Nat} {w : World} (h : WSet we k b w) (hk : k < we.length) (hv : we.getD k 0 < 0 ∨ 7 ≤ we.getD k 0) : WSet we (k + 1) b w := by
  refine TabB.congr h (fun i hi => ?_)
  rw [tk_contains we k hk]
  have : ((i : Int) == we.getD k 0) = false := by rw [beq_eq_false_iff_ne]; omega
  rw [this, Bool.or_false]
theorem WSet.put {we : List Int} {k b : Nat} {w : World} (h : WSet we k b w) (hk : k < we.length) (j : Nat) (hj : j < 7) (hv : we.getD k 0 = (j : Int)) : WSet we (k + 1) b (w.setCell ⟨b, j, none⟩ (.bool true)) := by
  refine TabB.put h j hj _ ?_ (fun i hi hne => ?_)
  · show Value.bool true = Value.bool ((we.take (k + 1)).contains (j : Int))
    rw [tk_contains we k hk, hv]; simp
  · show Value.bool ((we.take (k + 1)).contains (i : Int)) = Value.bool ((we.take k).contains (i : Int))
    rw [tk_contains we k hk, hv]
    have : ((i : Int) == (j : Int)) = false := by rw [beq_eq_false_iff_ne]; omega
    rw [this, Bool.or_false]
/-- The set of the holidays among the first k. -/
def HSet (ho : List Int) (k b : Nat) (w : World) : Prop := ∃ f : Nat → Nat, (∀ i, f i < 18446744073709551616) ∧ TabB w b 1142 (fun i => .int .u64 (f i)) ∧ ∀ q r : Nat, q < 1142 → r < 64 → vdB (q * 64 + r : Int) = true → (f q).testBit r = (ho.take k).contains (q * 64 + r : Int)
theorem HSet.keep {ho : List Int} {k b : Nat} {w w' : World} (h : HSet ho k b w) (hb : Below w.heap.size w w') : HSet ho k b w' := by
  obtain ⟨f, h2, h3, h4⟩ := h
  exact ⟨f, h2, h3.keep (by decide) hb, h4⟩
theorem HSet.skip {ho : List Int} {k b : Nat} {w : World} (h : HSet ho k b w) (hk : k < ho.length) (hv : vdB (ho.getD k 0) = false) : HSet ho (k + 1) b w := by
  obtain ⟨f, h2, h3, h4⟩ := h
  refine ⟨f, h2, h3, fun q r hq hr hd => ?_⟩
  rw [h4 q r hq hr hd, tk_contains ho k hk]
  have : ((q * 64 + r : Int) == ho.getD k 0) = false := by
    rw [beq_eq_false_iff_ne]
    intro e
    rw [e, hv] at hd; cases hd
  rw [this, Bool.or_false]
/-- A word with one more bit. -/
def setF (f : Nat → Nat) (q r i : Nat) : Nat := if i = q then f q ||| 2 ^ r else f i
theorem HSet.put {ho : List Int} {k b : Nat} {w : World} {f : Nat → Nat} {q r : Nat} (h2 : ∀ i, f i < 18446744073709551616) (h3 : TabB w b 1142 (fun i => .int .u64 (f i)))
    (h4 : ∀ q r : Nat, q < 1142 → r < 64 → vdB (q * 64 + r : Int) = true → (f q).testBit r = (ho.take k).contains (q * 64 + r : Int)) (hk : k < ho.length) (hq : q < 1142) (hr : r < 64) (hv : ho.getD k 0 = (q * 64 + r : Int)) :
    HSet ho (k + 1) b (w.setCell ⟨b, q, none⟩ (.int .u64 (f q ||| 2 ^ r : Nat))) := by
  refine ⟨setF f q r, fun i => ?_, ?_, fun q' r' hq' hr' hd => ?_⟩
  · unfold setF
    split
    · have a : f q < 2 ^ 64 := h2 q
      have b : 2 ^ r < 2 ^ 64 := Nat.pow_lt_pow_right (by decide) hr
      exact Nat.or_lt_two_pow a b
    · exact h2 i
  · refine h3.put q hq _ ?_ (fun i hi hne => ?_)
    · show Value.int .u64 _ = Value.int .u64 (setF f q r q : Nat)
      unfold setF; rw [if_pos rfl]
    · show Value.int .u64 (setF f q r i : Nat) = Value.int .u64 (f i)
      unfold setF; rw [if_neg hne]
  · rw [tk_contains ho k hk, hv, ← h4 q' r' hq' hr' hd]
    unfold setF
    split
    · rename_i e
      subst e
      rw [Nat.testBit_or, Nat.testBit_two_pow]
      congr 1
      rw [Bool.eq_iff_iff, beq_iff_eq, decide_eq_true_iff]
      omega
    · rename_i e
      have : ((q' * 64 + r' : Int) == (q * 64 + r : Int)) = false := by
        rw [beq_eq_false_iff_ne]
        intro c
        exact e (by omega)
      rw [this, Bool.or_false]
/-- The set as it is laid: nothing is in it. -/
theorem zc : Tryd.zeroCells59 = Array.replicate 1142 (.int .u64 0) := by kernel_rfl
theorem hset_new (ho : List Int) (w : World) : HSet ho 0 w.heap.size (w.alloc (.cells Tryd.zeroCells59 59)) := by
  refine ⟨fun _ => 0, fun _ => (by show (0 : Nat) < 18446744073709551616; decide), fun i hi => ?_, fun q r _ _ _ => by simp⟩
  rw [zc]
  exact ⟨by simp [go_sem, hi], by simp [go_sem]⟩
theorem sets_of {we ho : List Int} {b1 b2 : Nat} {w : World} (h1 : WSet we we.length b1 w) (h2 : HSet ho ho.length b2 w) : Sets we ho b1 b2 w := by
  unfold WSet at h1
  unfold HSet at h2
  rw [List.take_length] at h1 h2
  exact ⟨h1, h2⟩

set_option maxRecDepth 100000 in
set_option maxHeartbeats 4000000 in
theorem mopening (nm : ByteArray) (wo hp : Option Addr) (wc hc : Nat) (we ho : List Int) (w : World) (hc0 : CalAt wo hp we ho w) :
    Calls Tryd.prog 42 #[.agg #[.string nm, .slice wo we.length wc, .slice hp ho.length hc]] w fun e w' => ∃ b1 b2, e = .returned (.func (.func 52) #[] #[.pointer (some ⟨b1, 0, none⟩), .pointer (some ⟨b2, 0, none⟩)]) ∧ Sets we ho b1 b2 w' ∧ Below w.heap.size w w' := by
  have HC := Lib.hid hc0
  have hwl := hc0.wl
  have hhl := hc0.hl
  clear hc0
  go_enter Tryd.func42, Tryd.ntmps42
  go_wp2_with fail
  go_loopw [12] (fun i wr => ∃ k : Nat, k ≤ we.length ∧ i = .int .i64 k ∧ WSet we k (w.heap.size + 1) wr ∧ wr.cell? ⟨w.heap.size, 2, none⟩ = some (.slice hp ho.length hc) ∧ Below w.heap.size w wr ∧ wr.heap.size = w.heap.size + 2) (fun i _ => we.length - (RowKit.intOf i).toNat)
  case atStart =>
    refine ⟨0, by omega, rfl, ?_, by simp [go_sem], bal (bal (bref _) _) _, by simp⟩
    intro i hi
    have hi7 : i = 0 ∨ i = 1 ∨ i = 2 ∨ i = 3 ∨ i = 4 ∨ i = 5 ∨ i = 6 := by omega
    rcases hi7 with rfl | rfl | rfl | rfl | rfl | rfl | rfl <;> exact ⟨by simp [go_sem], by simp [go_sem]⟩
  case round =>
    obtain ⟨k, hk, rfl, hS, hX, hB, hz⟩ := hrel
    have HS := Lib.hid hS
    have HB := Lib.hid hB
    clear hS
    by_cases hlt : k < we.length
    · obtain ⟨b, off, rfl, hbw, c0⟩ := (HC.out.wk.keep hB) k hlt
      obtain ⟨x, hx⟩ : ∃ x, we.getD k 0 = x := ⟨_, rfl⟩
      rw [hx] at c0
      have hkz : (k : Int) < (we.length : Int) := by omega
      by_cases h0 : x < 0
      · have HN := Lib.hid (HS.out.skip hlt (by rw [hx]; exact Or.inl h0))
        have h0' : ¬ 0 ≤ x := by omega
        clear hx hB HS
        go_wp2_with fail
        go_roundw
        case rel => exact ⟨k + 1, hlt, by go_num, HN.out, hX, HB.out, hz⟩
        case measure => simp [RowKit.intOf]; omega
      · have h0' : 0 ≤ x := by omega
        by_cases h7 : 7 ≤ x
        · have HN := Lib.hid (HS.out.skip hlt (by rw [hx]; exact Or.inr h7))
          have h7' : ¬ x < 7 := by omega
          clear hx hB HS
          go_wp2_with fail
          go_roundw
          case rel => exact ⟨k + 1, hlt, by go_num, HN.out, hX, HB.out, hz⟩
          case measure => simp [RowKit.intOf]; omega
        · obtain ⟨j, hj⟩ : ∃ j : Nat, x = j := ⟨x.toNat, by omega⟩
          subst hj
          have hj7 : j < 7 := by omega
          have h7' : (j : Int) < 7 := by omega
          have HN := Lib.hid (HS.out.put hlt j hj7 hx)
          obtain ⟨cj, fj⟩ := HS.out j hj7
          have cj : wr.cell? ⟨w.heap.size + 1, j, none⟩ = some (.bool ((we.take k).contains (j : Int))) := cj
          have hX' : (wr.setCell ⟨w.heap.size + 1, j, none⟩ (.bool true)).cell? ⟨w.heap.size, 2, none⟩ = some (.slice hp ho.length hc) := by
            rw [World.cell?_setCell_other _ _ _ _ (by intro c; injection c with c _ _; omega)]; exact hX
          have HB' : Hid (Below w.heap.size w (wr.setCell ⟨w.heap.size + 1, j, none⟩ (.bool true))) := Lib.hid (HB.out.setCell (by show w.heap.size ≤ w.heap.size + 1; omega) _)
          have hz' : (wr.setCell ⟨w.heap.size + 1, j, none⟩ (.bool true)).heap.size = w.heap.size + 2 := by simpa using hz
          clear hx hB HS hX
          go_wp2_with fail
          go_roundw
          case rel => exact ⟨k + 1, hlt, by go_num, HN.out, hX', HB'.out, hz'⟩
          case measure => simp [RowKit.intOf]; omega
    · have he : k = we.length := by omega
      subst he
      go_wp2_with fail
      have hz2 : (wr.alloc (.cells Tryd.zeroCells59 59)).heap.size = w.heap.size + 3 := by simp [hz]
      have qa : Below wr.heap.size wr (wr.alloc (.cells Tryd.zeroCells59 59)) := bal (bref _) _
      have HW2 := Lib.hid (HS.out.keep qa)
      have HH2 := Lib.hid (hset_new ho wr)
      have HB2 := Lib.hid (btr HB.out qa)
      rw [hz] at HH2
      clear hX hB HB HS
      go_loopw [28] (fun i wq => ∃ k : Nat, k ≤ ho.length ∧ i = .int .i64 k ∧ HSet ho k (w.heap.size + 2) wq ∧ WSet we we.length (w.heap.size + 1) wq ∧ Below w.heap.size w wq ∧ wq.heap.size = w.heap.size + 3) (fun i _ => ho.length - (RowKit.intOf i).toNat)
      case atStart => exact ⟨0, by omega, rfl, HH2.out, HW2.out, HB2.out, hz2⟩
      case round =>
        clear HH2 HW2 HB2 hz2 qa hz
        obtain ⟨k, hk, rfl, hS, hX, hB, hz⟩ := hrel
        have HS := Lib.hid hS
        have HX := Lib.hid hX
        have HB := Lib.hid hB
        clear hS hX
        by_cases hlt : k < ho.length
        · obtain ⟨b, off, rfl, hbw, c0⟩ := (HC.out.hd.keep hB) k hlt
          obtain ⟨x, hx⟩ : ∃ x, ho.getD k 0 = x := ⟨_, rfl⟩
          rw [hx] at c0
          have hkz : (k : Int) < (ho.length : Int) := by omega
          have CV := fun W => mvalid x W
          cases hv : vdB x
          · have HN := Lib.hid (HS.out.skip hlt (by rw [hx]; exact hv))
            rw [hv] at CV
            have CV := Lib.hid CV
            clear hx hv hB HS
            go_wp2_with fail
            refine (CV.out _).mono ?_
            rintro e w1 ⟨rfl, rfl⟩
            go_wp2_with fail
            go_roundw
            case rel => exact ⟨k + 1, hlt, by go_num, HN.out, HX.out, HB.out, hz⟩
            case measure => simp [RowKit.intOf]; omega
          · obtain ⟨v1, v2⟩ := (vd_iff x).1 hv
            obtain ⟨q, hq⟩ : ∃ q : Nat, x / 64 = q := ⟨(x / 64).toNat, by omega⟩
            obtain ⟨r, hr⟩ : ∃ r : Nat, x % 64 = r := ⟨(x % 64).toNat, by omega⟩
            have hd : x = q * 64 + r := by omega
            have hq2 : q < 1142 := by omega
            have hr2 : r < 64 := by omega
            obtain ⟨f, f1, f2, f3⟩ := HS.out
            have HN := Lib.hid (HSet.put f1 f2 f3 hlt hq2 hr2 (by rw [hx]; exact hd))
            have C2 := Lib.hid (madd (w.heap.size + 2) q r (f q) x hq2 hr2 hd wr (f1 q) (f2 q hq2).1 (f2 q hq2).2)
            have HX' := Lib.hid (show WSet we we.length (w.heap.size + 1) (wr.setCell ⟨w.heap.size + 2, q, none⟩ (.int .u64 (f q ||| 2 ^ r : Nat))) from TabB.other HX.out _ (by show w.heap.size + 2 ≠ w.heap.size + 1; omega) _)
            have HB' : Hid (Below w.heap.size w (wr.setCell ⟨w.heap.size + 2, q, none⟩ (.int .u64 (f q ||| 2 ^ r : Nat)))) := Lib.hid (HB.out.setCell (by show w.heap.size ≤ w.heap.size + 2; omega) _)
            have HZ : Hid ((wr.setCell ⟨w.heap.size + 2, q, none⟩ (.int .u64 (f q ||| 2 ^ r : Nat))).heap.size = w.heap.size + 3) := Lib.hid (by simpa using hz)
            rw [hv] at CV
            have CV := Lib.hid CV
            clear hx hv hB HS HB HX hq hr hd f1 f2 f3
            go_wp2_with fail
            refine (CV.out _).mono ?_
            rintro e w1 ⟨rfl, rfl⟩
            go_wp2_with fail
            refine (C2.out).mono ?_
            rintro e w1 ⟨rfl, n, hw1⟩
            have N1 := Lib.hid (HN.out.keep (bdn (bref _) n))
            have X1 := Lib.hid (HX'.out.keep (bdn (bref _) n))
            have B1 := Lib.hid (bdn HB'.out n)
            have Z1 : Hid (w1.heap.size = w.heap.size + 3) := Lib.hid (by rw [hw1]; simpa using HZ.out)
            rw [← hw1] at N1 X1 B1
            clear hw1 HN HX' HB' HZ
            go_wp2_with fail
            go_roundw
            case rel => exact ⟨k + 1, hlt, by go_num, N1.out, X1.out, B1.out, Z1.out⟩
            case measure => simp [RowKit.intOf]; omega
        · have he : k = ho.length := by omega
          subst he
          have HF := Lib.hid (sets_of HX.out HS.out)
          clear HS HX hB
          go_wp2_with fail
          go_ret
          exact ⟨_, _, rfl, HF.out, HB.out⟩
end Go.Proofs.YtgljaopnehdgdaaDoor
