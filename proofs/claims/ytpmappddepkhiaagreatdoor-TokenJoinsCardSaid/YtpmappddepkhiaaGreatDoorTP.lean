/-
  Tokens: contracts of package token's alone, of the law's short, of the document's Same.
-/
import Derived.Test.YtpmappddepkhiaaGreatDoorTO
import Derived.Test.YtpmappddepkhiaaGreatDoorTB
namespace Go.Proofs.YtpmappddepkhiaaGreatDoor
open Go Go.RowKit Go.Lib WM TM

def alnB (k : Int) (x : List UInt8) : Bool := aln (k, 0, x)
theorem aln_alnB (t : Tok) : aln t = alnB t.1 t.2.2 := rfl
theorem alnB_one {k : Int} {x : List UInt8} (hx : x.length ≤ 2048) {u : Tok} (h : (TZ x).1 = [u]) : alnB k x = (decide (u.1 = k) && decide (u.2.2 = x)) := by
  rw [TZ_small hx] at h
  unfold alnB aln
  rw [h]
  simp only [List.map_cons, List.map_nil, pr, List.cons.injEq, and_true, Prod.mk.injEq]
  rw [Bool.decide_and]
theorem alnB_other {k : Int} {x : List UInt8} (hx : x.length ≤ 2048) (h : (TZ x).1.length ≠ 1) : alnB k x = false := by
  rw [TZ_small hx] at h
  unfold alnB aln
  rw [decide_eq_false_iff_not]
  intro e
  have := congrArg List.length e
  rw [List.length_map] at this
  exact h this
set_option maxRecDepth 100000 in
set_option maxHeartbeats 4000000 in
theorem malone (k ln : Int) (X : ByteArray) (hX : X.size ≤ 2048) (w : World) (hM : Mk w) (hE : Er w) :
    Calls Tryz.prog 19 #[.agg #[.int .i64 k, .int .i64 ln, .string X]] w fun e w' => e = .returned (.bool (alnB k (byt X))) ∧ Below w.heap.size w w' := by
  have T0 := mtokenize X
  have hxl : (byt X).length ≤ 2048 := by rw [byt_len]; exact hX
  have hone := fun u h => alnB_one (k := k) hxl (u := u) h
  have hoth := alnB_other (k := k) hxl
  obtain ⟨q, hq⟩ : ∃ q, TZ (byt X) = q := ⟨_, rfl⟩
  rw [hq] at T0 hone hoth
  have HT := Lib.hid (fun W hM hE => T0 W hM hE)
  obtain ⟨R, hR⟩ : ∃ R, alnB k (byt X) = R := ⟨_, rfl⟩
  rw [hR] at hone hoth ⊢
  have HX : BoxT (w.alloc (.cells #[.int .i64 k, .int .i64 ln, .string X] 36)) w.heap.size k ln X := BoxT.new w k ln X
  have B0 := Lib.hid (bal (bref w) (.cells #[.int .i64 k, .int .i64 ln, .string X] 36))
  have HM := Lib.hid hM
  have HE := Lib.hid hE
  obtain ⟨m, a, b⟩ := q
  have HH : Hid (∀ u, m = [u] → R = (decide (u.1 = k) && decide (u.2.2 = byt X))) := Lib.hid (fun u h => hone u h)
  have HO : Hid (m.length ≠ 1 → R = false) := Lib.hid hoth
  clear T0 hone hoth hq hR hM hE hxl hX
  go_enter Tryz.func19, Tryz.ntmps19
  go_wp2_with fail
  refine (HT.out _ (HM.out.keep B0.out) (HE.out.keep B0.out)).mono ?_
  rintro e w1 ⟨ao, c, rfl, hK, q1⟩
  obtain ⟨x0, x1, x2⟩ := (HX.keep q1).cells
  have s1 := (HX.keep q1).lt
  have B1 := Lib.hid (btr B0.out q1)
  clear q1 HX
  by_cases h1 : m.length = 1
  · obtain ⟨u, rfl⟩ : ∃ u, m = [u] := List.length_eq_one_iff.1 h1
    obtain ⟨g, off, rfl, hg, c0, c1, c2⟩ := hK 0 (by simp)
    have HR := Lib.hid (HH.out u rfl)
    obtain ⟨uk, ul, ux⟩ := u
    have c0' : w1.cell? ⟨g, off, none⟩ = some (.int .i64 uk) := by simpa using c0
    have c2' : w1.cell? ⟨g, off + 2, none⟩ = some (.string (str ux)) := by simpa using c2
    have HR2 : Hid (R = (decide (uk = k) && decide (ux = byt X))) := Lib.hid HR.out
    obtain ⟨U, hU⟩ : ∃ U, str ux = U := ⟨_, rfl⟩
    rw [hU] at c2'
    have hUx : byt U = ux := by rw [← hU, byt_str]
    rw [← hUx] at HR2
    clear h1 hK c0 c1 c2 HR HH HO hU hUx
    by_cases hk : uk = k
    · subst hk
      by_cases ht : U = X
      · subst ht
        have HR3 : Hid (R = true) := Lib.hid (by rw [HR2.out]; simp)
        clear HR2
        go_wp2_with fail
        go_quiet (fail)
        go_wp2_with fail
        go_ret
        exact ⟨by rw [HR3.out]; rfl, by first | exact B1.out | exact bdn B1.out _⟩
      · have hne : byt U ≠ byt X := fun e => ht (by rw [← str_byt U, e, str_byt])
        have HR3 : Hid (R = false) := Lib.hid (by rw [HR2.out]; simp [hne])
        have hb : (U.toList == X.toList) = false := by rw [beq_eq_false_iff_ne, toList_data, toList_data]; exact hne
        have hb2 : ¬ U.toList = X.toList := by rw [toList_data, toList_data]; exact hne
        clear HR2 hne ht
        go_wp2_with fail
        go_quiet (fail)
        go_wp2_with fail
        go_ret
        exact ⟨by rw [HR3.out]; rfl, by first | exact B1.out | exact bdn B1.out _⟩
    · have HR3 : Hid (R = false) := Lib.hid (by rw [HR2.out]; simp [hk])
      have hb : (uk == k) = false := by rw [beq_eq_false_iff_ne]; exact hk
      clear HR2
      go_wp2_with fail
      go_quiet (fail)
      go_wp2_with fail
      go_ret
      exact ⟨by rw [HR3.out]; rfl, by first | exact B1.out | exact bdn B1.out _⟩
  · have HR3 : Hid (R = false) := Lib.hid (HO.out h1)
    have hz : ¬ (m.length : Int) = 1 := by omega
    have hb : ((m.length : Int) == 1) = false := by rw [beq_eq_false_iff_ne]; exact hz
    clear h1 hK HH HO
    go_wp2_with fail
    go_quiet (fail)
    go_wp2_with fail
    go_ret
    exact ⟨by rw [HR3.out]; rfl, by first | exact B1.out | exact bdn B1.out _⟩

/-! ### The law's own bound -/
def shB (l : List Tok) : Bool := decide (l.length ≤ 300) && l.all fun t => decide (t.2.2.length ≤ 100)
set_option maxRecDepth 100000 in
set_option maxHeartbeats 1000000 in
theorem mshort (ao : Option Addr) (l : List Tok) (c : Nat) (w : World) (h : TokensAt ao l w) :
    Calls Tryz.prog 9 #[.slice ao l.length c] w fun e w' => e = .returned (.bool (shB l)) ∧ w = w' := by
  have HT := Lib.hid h
  obtain ⟨n, hn⟩ : ∃ n, l.length = n := ⟨_, rfl⟩
  have HN := Lib.hid hn
  obtain ⟨R, hR⟩ : ∃ R, shB l = R := ⟨_, rfl⟩
  rw [hR, hn]
  by_cases h0 : 300 < n
  · have HR : Hid (R = false) := Lib.hid (by rw [← hR]; unfold shB; rw [hn, decide_eq_false (by omega)]; rfl)
    have h0z : (300 : Int) < (n : Int) := by omega
    clear h hn hR h0
    go_enter Tryz.func9, Tryz.ntmps9
    go_wp2_with fail
    go_ret
    exact ⟨by rw [HR.out]; rfl, rfl⟩
  · have HR : Hid (R = l.all fun t => decide (t.2.2.length ≤ 100)) := Lib.hid (by rw [← hR]; unfold shB; rw [hn, decide_eq_true (by omega), Bool.true_and])
    have h0z : ¬ (300 : Int) < (n : Int) := by omega
    clear h hn hR
    go_enter Tryz.func9, Tryz.ntmps9
    go_wp2_with fail
    go_loop [3] (fun i => ∃ (k : Nat), k ≤ n ∧ i = .int .i64 k ∧ ((l.take k).all fun t => decide (t.2.2.length ≤ 100)) = true) (fun i => n - (RowKit.intOf i).toNat)
    case atStart => exact ⟨0, by omega, rfl, rfl⟩
    case round =>
      obtain ⟨k, hk, rfl, hA⟩ := hrel
      have HA := Lib.hid hA
      clear hA
      by_cases hlt : k < n
      · obtain ⟨b, off, rfl, hb, c0, c1, c2⟩ := HT.out k (by rw [HN.out]; exact hlt)
        have ht := take_g T0 l k (by rw [HN.out]; exact hlt)
        have hm := getD_mem' T0 l k (by rw [HN.out]; exact hlt)
        obtain ⟨x, hx⟩ : ∃ x, l.getD k T0 = x := ⟨_, rfl⟩
        rw [hx] at c0 c1 c2 ht hm
        obtain ⟨X, hX⟩ : ∃ X, str x.2.2 = X := ⟨_, rfl⟩
        have hXl : X.size = x.2.2.length := by rw [← hX, str_size]
        rw [hX] at c2
        have hkz : (k : Int) < (n : Int) := by omega
        by_cases hq : 100 < X.size
        · have hqz : (100 : Int) < (X.size : Int) := by omega
          have HR2 : Hid (R = false) := Lib.hid (by
            rw [HR.out, List.all_eq_false]
            exact ⟨x, hm, by simp; omega⟩)
          clear hx ht hm hX hXl hq
          go_wp2_with fail
          go_ret
          exact ⟨by rw [HR2.out]; rfl, rfl⟩
        · have hqz : ¬ (100 : Int) < (X.size : Int) := by omega
          have HA2 : Hid (((l.take (k + 1)).all fun t => decide (t.2.2.length ≤ 100)) = true) := Lib.hid (by
            rw [ht, List.all_append, HA.out]
            simp; omega)
          clear hx ht hm hX hXl hq
          go_wp2_with fail
          go_round
          case rel => exact ⟨k + 1, by omega, by go_num, HA2.out⟩
          case measure => simp [RowKit.intOf]; omega
      · have he : k = n := by omega
        subst he
        have HR2 : Hid (R = true) := Lib.hid (by
          rw [HR.out]
          have := HA.out
          rwa [List.take_of_length_le (by rw [HN.out]; exact Nat.le_refl _)] at this)
        go_wp2_with fail
        go_ret
        exact ⟨by rw [HR2.out]; rfl, rfl⟩

/-! ### The document's Same, of equal lists -/
set_option maxRecDepth 100000 in
set_option maxHeartbeats 2000000 in
theorem rsame (ao bo : Option Addr) (l : List Tok) (ca cb : Nat) (hl : l.length ≤ 1000000) (w : World) (h : TokensAt ao l w) (h2 : TokensAt bo l w) :
    Calls Tryz.prog 8 #[.slice ao l.length ca, .slice bo l.length cb] w fun e w' => e = .returned (.bool true) ∧ Below w.heap.size w w' := by
  have HA := Lib.hid h
  have HB := Lib.hid h2
  obtain ⟨n, hn⟩ : ∃ n, l.length = n := ⟨_, rfl⟩
  have HN := Lib.hid hn
  rw [hn] at hl ⊢
  clear h h2 hn
  go_enter Tryz.func8, Tryz.ntmps8
  go_wp2_with fail
  go_loopw [5] (fun i wr => ∃ (k z : Nat), k ≤ n ∧ i = .int .i64 k ∧ wr = w.drewN z) (fun i _ => n - (RowKit.intOf i).toNat)
  case atStart => exact ⟨0, 0, by omega, rfl, rfl⟩
  case round =>
    obtain ⟨k, z, hk, rfl, rfl⟩ := hrel
    by_cases hlt : k < n
    · obtain ⟨b, off, rfl, hb, c0, c1, c2⟩ := HA.out k (by rw [HN.out]; exact hlt)
      obtain ⟨b2, off2, rfl, hb2, d0, d1, d2⟩ := HB.out k (by rw [HN.out]; exact hlt)
      obtain ⟨x, hx⟩ : ∃ x, l.getD k T0 = x := ⟨_, rfl⟩
      rw [hx] at c0 c1 c2 d0 d1 d2
      obtain ⟨xk, xl, xx⟩ := x
      obtain ⟨X, hX⟩ : ∃ X, str xx = X := ⟨_, rfl⟩
      simp only [hX] at c0 c1 c2 d0 d1 d2
      have hkz : (k : Int) < (n : Int) := by omega
      clear hx hX
      go_wp2_with fail
      go_quiet (fail)
      go_wp2_with fail
      go_roundw
      case rel => exact ⟨k + 1, _, by omega, by go_num, by first | rfl | exact World.drewN_drewN _ _ _⟩
      case measure => simp [RowKit.intOf]; omega
    · have he : k = n := by omega
      subst he
      go_wp2_with fail
      go_ret
      exact ⟨rfl, bdn (bref _) _⟩
end Go.Proofs.YtpmappddepkhiaaGreatDoor
