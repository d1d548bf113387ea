/-
  The document's Result; variables, both sides; short.
-/
import Derived.Test.YtcnnkobiijhegaaDoorZF
import Derived.Test.YtcnnkobiijhegaaDoorHV
namespace Go.Proofs.YtcnnkobiijhegaaDoor
open Go Go.RowKit Go.Lib Go.Shelf WM TM EM YM

set_option maxRecDepth 100000 in
set_option maxHeartbeats 4000000 in
theorem rResult (o : Int) (l : List Int) (ao : Option Addr) (cap : Nat) (w : World) (h : IntsAt ao l w) :
    Calls Tryd.prog 8 #[.int .i64 o, .slice ao l.length cap] w fun r w' => r = .returned (.tuple #[.int .i64 ((resO o l).getD 0), .bool (resO o l).isSome]) ∧ Below w.heap.size w w' := by
  have C9 := Lib.hid (fun W (hW : Below w.heap.size w W) (h3 : l.length ≤ 3) => rresult o l ao cap W (h.keep hW) h3)
  obtain ⟨n, hn⟩ : ∃ n, l.length = n := ⟨_, rfl⟩
  obtain ⟨R, hR⟩ : ∃ R, resO o l = R := ⟨_, rfl⟩
  obtain ⟨Q, hQ⟩ : ∃ Q, rawO o l = Q := ⟨_, rfl⟩
  have HI := Lib.hid h
  have HN := Lib.hid hn
  have HR := Lib.hid hR
  have HQ9 : Hid (l.all good = true → R = Q) := Lib.hid (fun hg => by rw [← hR, ← hQ]; unfold resO; rw [if_pos hg])
  obtain ⟨V, hV⟩ : ∃ V, R.getD 0 = V := ⟨_, rfl⟩
  obtain ⟨S, hS⟩ : ∃ S, R.isSome = S := ⟨_, rfl⟩
  rw [hn, hQ] at C9
  rw [hn, hR, hV, hS]
  have HVS := Lib.hid (And.intro hV hS)
  clear h hR hV hS hQ
  by_cases h3 : 3 < n
  · have h3z : (3 : Int) < (n : Int) := by omega
    have hr : R = none := by rw [← HR.out]; exact res_long o l (by omega)
    subst hr
    obtain ⟨rfl, rfl⟩ := HVS.out
    clear hn h3
    go_enter Tryd.func8, Tryd.ntmps8
    go_wp2_with fail
    go_ret2
    exact ⟨rfl, by repeat (first | exact bref _ | refine bdr ?_ | refine bal ?_ _)⟩
  have h3z : ¬ (3 : Int) < (n : Int) := by omega
  have hn3 : n ≤ 3 := by omega
  clear hn h3
  go_enter Tryd.func8, Tryd.ntmps8
  go_wp2_with fail
  go_loopw [6] (fun i wr => ∃ (k : Nat), k ≤ n ∧ i = .int .i64 k ∧ (l.take k).all good = true ∧ Below w.heap.size w wr) (fun i _ => n - (RowKit.intOf i).toNat)
  case atStart => exact ⟨0, by omega, rfl, rfl, bref _⟩
  case round =>
    obtain ⟨k, hk, rfl, hq, hB⟩ := hrel
    have HQ := Lib.hid hq
    have HB := Lib.hid hB
    clear hq hB
    by_cases hlt : k < n
    · have hkz : (k : Int) < (n : Int) := by omega
      have g1 : k < l.length := by rw [HN.out]; exact hlt
      obtain ⟨b, off, rfl, hb, c0⟩ := (HI.out.keep HB.out) k g1
      have HL := Lib.hid (fun hg => all_next' l k g1 HQ.out hg)
      have HL2 := Lib.hid (fun hg => all_bad l k g1 hg)
      obtain ⟨t, ht⟩ : ∃ t, l.getD k 0 = t := ⟨_, rfl⟩
      rw [ht] at c0 HL HL2
      have C1 := Lib.hid (fun W => rgood t W)
      clear ht g1
      cases hg : good t with
      | false =>
        rw [hg] at C1
        have hr : Hid (R = none) := Lib.hid (by rw [← HR.out]; exact res_bad o l (HL2.out hg))
        clear hg
        go_wp2_with (go_at_call 15; refine (C1.out _).mono ?_; rintro r2 w2 ⟨rfl, hb2⟩)
        go_ret2
        exact ⟨by rw [← HVS.out.1, ← HVS.out.2, hr.out]; rfl, btr HB.out hb2⟩
      | true =>
        rw [hg] at C1
        have HG := Lib.hid (HL.out hg)
        clear hg
        go_wp2_with (go_at_call 15; refine (C1.out _).mono ?_; rintro r2 w2 ⟨rfl, hb2⟩)
        go_roundw
        case rel => exact ⟨k + 1, by omega, by go_num, HG.out, btr HB.out hb2⟩
        case measure => simp [RowKit.intOf]; omega
    · have he : k = n := by omega
      subst he
      have hll : l.take l.length = l := List.take_length
      have hqr : Hid (R = Q) := Lib.hid (HQ9.out (by have := HQ.out; rw [← HN.out, hll] at this; exact this))
      have C0 := Lib.hid (fun W (hW : Below wr.heap.size wr W) => C9.out W (btr HB.out hW) hn3)
      clear hll hn3 hk hlt
      cases Q with
      | none =>
        simp only [Option.isSome] at C0
        go_wp2_with (go_at_call 18; refine (C0.out _ (bref _)).mono ?_; rintro r2 w2 ⟨v, rfl, hv, hb2⟩)
        go_ret2
        exact ⟨by rw [← HVS.out.1, ← HVS.out.2, hqr.out]; rfl, btr HB.out hb2⟩
      | some t =>
        simp only [Option.isSome] at C0
        go_wp2_with (go_at_call 18; refine (C0.out _ (bref _)).mono ?_; rintro r2 w2 ⟨v, rfl, hv, hb2⟩; have HVV := Lib.hid (hv t rfl); clear hv)
        go_ret2
        exact ⟨by rw [← HVS.out.1, ← HVS.out.2, hqr.out, HVV.out]; rfl, btr HB.out hb2⟩

/-- At most 100 variables with names of at most 100 bytes. -/
def shortB (l : List Vr) : Bool := l.all (fun v => decide (v.1.length ≤ 100)) && decide (l.length ≤ 100)
theorem short_len {l : List Vr} (h : shortB l = true) : l.length ≤ 100 := by
  unfold shortB at h
  simp only [Bool.and_eq_true, decide_eq_true_eq] at h
  exact h.2
theorem short_bad {l : List Vr} {k : Nat} (hk : k < l.length) (h : 100 < (l.getD k V0).1.length) : shortB l = false := by
  unfold shortB
  have : l.all (fun v => decide (v.1.length ≤ 100)) = false := by
    cases hc : l.all (fun v => decide (v.1.length ≤ 100)) with
    | false => rfl
    | true =>
      have := List.all_eq_true.1 hc (l.getD k V0) (by simp [List.getD, hk])
      have := of_decide_eq_true this
      omega
  rw [this]; rfl
theorem short_many {l : List Vr} (h : 100 < l.length) : shortB l = false := by
  unfold shortB
  rw [decide_eq_false (by omega : ¬ l.length ≤ 100), Bool.and_false]
theorem short_good {l : List Vr} (h : ∀ j, j < l.length → (l.getD j V0).1.length ≤ 100) (h2 : l.length ≤ 100) : shortB l = true := by
  unfold shortB
  rw [decide_eq_true h2, Bool.and_true, List.all_eq_true]
  intro v hv
  obtain ⟨k, hk, rfl⟩ := List.getElem_of_mem hv
  have := h k hk
  simp [List.getD, hk] at this
  exact decide_eq_true this
set_option maxRecDepth 100000 in
set_option maxHeartbeats 4000000 in
theorem lshort (l : List Vr) (ao : Option Addr) (cap : Nat) (w : World) (h : VarsAt ao l w) :
    Calls Tryd.prog 9 #[.slice ao l.length cap] w fun r w' => r = .returned (.bool (shortB l)) ∧ Below w.heap.size w w' := by
  obtain ⟨n, hn⟩ : ∃ n, l.length = n := ⟨_, rfl⟩
  obtain ⟨R, hR⟩ : ∃ R, shortB l = R := ⟨_, rfl⟩
  have HI := Lib.hid h
  have HN := Lib.hid hn
  have HR := Lib.hid hR
  rw [hn, hR]
  clear h hR hn
  go_enter Tryd.func9, Tryd.ntmps9
  go_wp2_with fail
  go_loopw [3] (fun i wr => ∃ (k : Nat), k ≤ n ∧ k ≤ 101 ∧ i = .int .i64 k ∧ (∀ j, j < k → (l.getD j V0).1.length ≤ 100) ∧ Below w.heap.size w wr) (fun i _ => n - (RowKit.intOf i).toNat)
  case atStart => exact ⟨0, by omega, by omega, rfl, fun j hj => absurd hj (Nat.not_lt_zero _), bref _⟩
  case round =>
    obtain ⟨k, hk, hk1, rfl, hq, hB⟩ := hrel
    have HQ := Lib.hid hq
    have HB := Lib.hid hB
    clear hq hB
    by_cases hlt : k < n
    · have hkz : (k : Int) < (n : Int) := by omega
      by_cases h101 : k < 101
      · have hkz1 : (k : Int) < 101 := by omega
        have g1 : k < l.length := by rw [HN.out]; exact hlt
        obtain ⟨b, off, rfl, hb, c0, c1⟩ := (HI.out.keep HB.out) k g1
        have HS := Lib.hid (fun h => short_bad (l := l) g1 h)
        obtain ⟨x, hx⟩ : ∃ x, (l.getD k V0).1 = x := ⟨_, rfl⟩
        rw [hx] at c0 HS
        have hxs : (str x).size = x.length := str_size x
        obtain ⟨X, hX⟩ : ∃ X, str x = X := ⟨_, rfl⟩
        rw [hX] at c0 hxs
        by_cases hbig : 100 < X.size
        · have hbz : (100 : Int) < (X.size : Int) := by omega
          have hr : Hid (R = false) := Lib.hid (by rw [← HR.out]; exact HS.out (by omega))
          clear hX hxs hx g1
          go_wp2_with fail
          go_ret
          exact ⟨by rw [hr.out]; rfl, HB.out⟩
        · have hbz : ¬ (100 : Int) < (X.size : Int) := by omega
          have HX : Hid (∀ j, j < k + 1 → (l.getD j V0).1.length ≤ 100) := Lib.hid (by
            intro j hj
            by_cases e : j = k
            · subst e; rw [hx]; omega
            · exact HQ.out j (by omega))
          clear hX hxs hx g1
          go_wp2_with fail
          go_roundw
          case rel => exact ⟨k + 1, by omega, by omega, by go_num, HX.out, HB.out⟩
          case measure => simp [RowKit.intOf]; omega
      · have hkz1 : ¬ (k : Int) < 101 := by omega
        have hnz : ¬ (n : Int) ≤ 100 := by omega
        have hr : Hid (R = false) := Lib.hid (by rw [← HR.out]; exact short_many (by rw [HN.out]; omega))
        go_wp2_with fail
        go_ret
        exact ⟨by rw [hr.out]; simp, HB.out⟩
    · have he : k = n := by omega
      subst he
      by_cases h100 : k ≤ 100
      · have hnz : (k : Int) ≤ 100 := by omega
        have hr : Hid (R = true) := Lib.hid (by rw [← HR.out]; exact short_good (by rw [HN.out]; exact HQ.out) (by rw [HN.out]; exact h100))
        go_wp2_with fail
        go_ret
        exact ⟨by rw [hr.out]; simp, HB.out⟩
      · have hnz : ¬ (k : Int) ≤ 100 := by omega
        have hr : Hid (R = false) := Lib.hid (by rw [← HR.out]; exact short_many (by rw [HN.out]; omega))
        go_wp2_with fail
        go_ret
        exact ⟨by rw [hr.out]; simp, HB.out⟩
end Go.Proofs.YtcnnkobiijhegaaDoor
