/-
  Merged: Expressions: contracts of the document's own is, binary, Number. Expressions: what the document's reading gives, in memory: lists of operands that the call owns, results in boxes.
-/
import Derived.Test.YtplkphihmfhciaaGreatDoorHT
import Derived.Test.YtplkphihmfhciaaGreatDoorHP
import Derived.Test.YtplkphihmfhciaaGreatDoorMG
import Derived.Test.YtplkphihmfhciaaGreatDoorGG
import Derived.Maps.AppendAt
/- Expressions: contracts of the document's own is, binary, Number. -/
namespace Go.Proofs.YtplkphihmfhciaaGreatDoor
open Go Go.RowKit Go.Lib Go.Shelf WM TM EM

theorem isT_at (kd : Int) (x : List UInt8) (l : List Tok) (k : Nat) (h : k < l.length) : isT kd x (l.drop k) = ((l.getD k T0).1 == kd && (l.getD k T0).2.2 == x) := by
 rw [drop_g T0 l k h]; rfl
theorem isT_ge (kd : Int) (x : List UInt8) (l : List Tok) (k : Nat) (h : l.length ≤ k) : isT kd x (l.drop k) = false := by
 rw [List.drop_eq_nil_of_le h]; rfl
theorem isT_len {kd : Int} {x : List UInt8} {l : List Tok} {k : Nat} (h : isT kd x (l.drop k) = true) : k < l.length := by
 rcases Nat.lt_or_ge k l.length with c | c
 ·exact c
 ·rw [isT_ge kd x l k c] at h; cases h
set_option maxRecDepth 100000 in
set_option maxHeartbeats 2000000 in
theorem ris (ao : Option Addr) (c : Nat) (l : List Tok) (k : Nat) (kd : Int) (x : List UInt8) (w : World) (hT : TokensAt ao l w) (hk : k ≤ 100000) (hl : l.length ≤ 100000) :
  Calls Tryz.prog 49 #[.slice ao l.length c, .int .i64 (k : Int), .int .i64 kd, .string (str x)] w fun q w' => q = .returned (.bool (isT kd x (l.drop k))) ∧ w = w' := by
 obtain ⟨R, hR⟩ : ∃ R, isT kd x (l.drop k) = R := ⟨_, rfl⟩
 rw [hR]
 obtain ⟨n, hn⟩ : ∃ n, l.length = n := ⟨_, rfl⟩
 rw [hn] at hl ⊢
 by_cases hlt : k < n
 rotate_left
 ·have HR : Hid (R = false) := Lib.hid (by rw [← hR]; exact isT_ge kd x l k (by omega))
  have hkz : ¬ ((k : Int) < (n : Int)) := by omega
  clear hR hT hn
  go_enter Tryz.func49, Tryz.ntmps49
  go_wp2_with fail
  go_ret
  exact ⟨by rw [HR.out]; rfl, rfl⟩
 ·have hkz : ((k : Int) < (n : Int)) := by omega
  rw [isT_at kd x l k (by omega)] at hR
  obtain ⟨b, off, rfl, hb, c0, c1, c2⟩ := hT k (by omega)
  obtain ⟨u, hu⟩ : ∃ u, l.getD k T0 = u := ⟨_, rfl⟩
  rw [hu] at hR c0 c1 c2
  obtain ⟨uk, ul, ux⟩ := u
  simp only at hR c0 c1 c2
  clear hT hn hu
  cases hkd : (uk == kd) with
  | false =>
   rw [hkd, Bool.false_and] at hR
   have HR : Hid (R = false) := Lib.hid hR.symm
   clear hR
   go_enter Tryz.func49, Tryz.ntmps49
   go_wp2_with fail
   go_ret
   exact ⟨by rw [HR.out]; rfl, rfl⟩
  | true =>
   rw [hkd, Bool.true_and] at hR
   by_cases hx : ux = x
   ·subst hx
    have HR : Hid (R = true) := Lib.hid (by rw [← hR]; exact beq_self_eq_true _)
    clear hR
    go_enter Tryz.func49, Tryz.ntmps49
    go_wp2_with fail
    go_ret
    exact ⟨by rw [HR.out]; rfl, rfl⟩
   ·have HR : Hid (R = false) := Lib.hid (by rw [← hR]; exact beq_eq_false_iff_ne.2 hx)
    have hxn := str_ne hx
    clear hR hx
    go_enter Tryz.func49, Tryz.ntmps49
    go_wp2_with fail
    go_ret
    exact ⟨by rw [HR.out]; rfl, rfl⟩
theorem eight (p : Nat → Prop) (h : p 0 ∧ p 1 ∧ p 2 ∧ p 3 ∧ p 4 ∧ p 5 ∧ p 6 ∧ p 7) : ∀ k, k < 8 → p k := by
 intro k hk
 obtain ⟨h0, h1, h2, h3, h4, h5, h6, h7⟩ := h
 match k, hk with
 | 0, _ => exact h0
 | 1, _ => exact h1
 | 2, _ => exact h2
 | 3, _ => exact h3
 | 4, _ => exact h4
 | 5, _ => exact h5
 | 6, _ => exact h6
 | 7, _ => exact h7
set_option maxRecDepth 100000 in
set_option maxHeartbeats 4000000 in
theorem rbinary (ao : Option Addr) (c : Nat) (l : List Tok) (k r : Nat) (w : World) (hT : TokensAt ao l w) (hk : k ≤ 100000) (hl : l.length ≤ 100000) :
  Calls Tryz.prog 53 #[.slice ao l.length c, .int .i64 (k : Int), .int .i64 (r : Int)] w fun q w' => q = .returned (.int .i64 (bin r (l.drop k))) ∧ Below w.heap.size w w' := by
 have RK := Lib.hid (fun o W => rrank o W)
 have IS := Lib.hid (fun kd x W (hW : Below w.heap.size w W) => ris ao c l k kd x W (hT.keep hW) hk hl)
 obtain ⟨n, hn⟩ : ∃ n, l.length = n := ⟨_, rfl⟩
 obtain ⟨m, hm⟩ : ∃ m, l.drop k = m := ⟨_, rfl⟩
 rw [hn, hm] at IS
 rw [hn, hm]
 clear hT hn hm hl
 go_enter Tryz.func53, Tryz.ntmps53
 go_wp2_with fail
 obtain ⟨W3, hW3⟩ : ∃ W3, ((w.alloc (.cells #[.string ⟨#[43]⟩, .string ⟨#[45]⟩, .string ⟨#[42]⟩, .string ⟨#[47]⟩, .string ⟨#[61, 61]⟩, .string ⟨#[33, 61]⟩, .string ⟨#[60]⟩, .string ⟨#[60, 61]⟩] 9)).alloc (.cells #[.int .i64 5, .int .i64 6, .int .i64 7, .int .i64 8, .int .i64 10, .int .i64 11, .int .i64 12, .int .i64 13] 3)) = W3 := ⟨_, rfl⟩
 have hb3 : Below w.heap.size w W3 := by rw [← hW3]; exact bal (bal (bref _) _) _
 have x1 : ∀ i, i < 8 → W3.cell? ⟨w.heap.size, i, none⟩ = some (.string (str (sg8 i))) := by
  rw [← hW3]
  refine eight _ ⟨?_, ?_, ?_, ?_, ?_, ?_, ?_, ?_⟩ <;> (simp [go_sem]; rfl)
 have x2 : ∀ i, i < 8 → W3.cell? ⟨w.heap.size + 1, i, none⟩ = some (.int .i64 (op8 i)) := by
  rw [← hW3]
  refine eight _ ⟨?_, ?_, ?_, ?_, ?_, ?_, ?_, ?_⟩ <;> (simp [go_sem]; rfl)
 have X1 := Lib.hid x1
 have X2 := Lib.hid x2
 have HB3 := Lib.hid hb3
 rw [hW3]
 clear hW3 x1 x2 hb3
 go_loopw [9] (fun i wr => ∃ (j : Nat), j ≤ 8 ∧ i = .int .i64 j ∧ (∀ q, q < j → ¬ (rk (op8 q) = r ∧ isT 4 (sg8 q) m = true)) ∧ wr = W3) (fun i _ => 8 - (RowKit.intOf i).toNat)
 case atStart => exact ⟨0, by omega, rfl, (fun q hq => absurd hq (Nat.not_lt_zero _)), rfl⟩
 case round =>
  obtain ⟨j, hj, rfl, hq, rfl⟩ := hrel
  have HQ := Lib.hid hq
  clear hq
  by_cases hlt : j < 8
  ·have hjz : (j : Int) < 8 := by omega
   have c1 := X1.out j hlt
   have c2 := X2.out j hlt
   have R1 := RK.out (op8 j)
   have I1 := fun W (hW : Below w.heap.size w W) => IS.out 4 (sg8 j) W hW
   have HY := Lib.hid (fun (h : isT 4 (sg8 j) m = true) (h2 : rk (op8 j) = r) => bin_yes (l := m) hlt h h2)
   have HN := Lib.hid (fun (h : ¬ (rk (op8 j) = r ∧ isT 4 (sg8 j) m = true)) => (fun q (hq : q < j + 1) => by
    rcases Nat.lt_or_ge q j with h3 | h3
    ·exact HQ.out q h3
    ·rw [show q = j by omega]; exact h : ∀ q, q < j + 1 → ¬ (rk (op8 q) = r ∧ isT 4 (sg8 q) m = true)))
   obtain ⟨M, hM⟩ : ∃ M, rk (op8 j) = M := ⟨_, rfl⟩
   obtain ⟨V, hV⟩ : ∃ V, isT 4 (sg8 j) m = V := ⟨_, rfl⟩
   rw [hM] at R1
   have HM := Lib.hid hM
   have HV := Lib.hid hV
   rw [hV] at I1
   have R1 := Lib.hid R1
   have I1 := Lib.hid I1
   obtain ⟨o, ho⟩ : ∃ o, op8 j = o := ⟨_, rfl⟩
   have HO := Lib.hid ho
   obtain ⟨s, hs⟩ : ∃ s, sg8 j = s := ⟨_, rfl⟩
   rw [ho] at c2 R1
   rw [hs] at c1 I1
   clear hM hV ho hs
   by_cases hMr : M = r
   ·have gM : ((M : Int) == (r : Int)) = true := by rw [beq_iff_eq]; omega
    cases V with
    | false =>
     have HA := Lib.hid (HN.out (fun h => by rw [HV.out] at h; cases h.2))
     clear hMr
     go_wp2_with fail
     refine (R1.out _).mono ?_
     rintro q w1 ⟨rfl, rfl⟩
     go_wp2_with fail
     refine (I1.out _ HB3.out).mono ?_
     rintro q w1 ⟨rfl, rfl⟩
     go_wp2_with fail
     go_roundw
     case rel => exact ⟨j + 1, by omega, by go_num, HA.out, by first | rfl | trivial⟩
     case measure => simp [RowKit.intOf]; omega
    | true =>
     have HF : Hid (bin r m = o) := Lib.hid (by rw [HY.out HV.out (HM.out.trans hMr)]; exact HO.out)
     clear hMr
     go_wp2_with fail
     refine (R1.out _).mono ?_
     rintro q w1 ⟨rfl, rfl⟩
     go_wp2_with fail
     refine (I1.out _ HB3.out).mono ?_
     rintro q w1 ⟨rfl, rfl⟩
     go_wp2_with fail
     go_ret
     exact ⟨by rw [HF.out]; rfl, HB3.out⟩
   ·have gM : ((M : Int) == (r : Int)) = false := by rw [beq_eq_false_iff_ne]; omega
    have HA := Lib.hid (HN.out (fun h => hMr (HM.out.symm.trans h.1)))
    clear hMr
    go_wp2_with fail
    refine (R1.out _).mono ?_
    rintro q w1 ⟨rfl, rfl⟩
    go_wp2_with fail
    go_roundw
    case rel => exact ⟨j + 1, by omega, by go_num, HA.out, by first | rfl | trivial⟩
    case measure => simp [RowKit.intOf]; omega
  ·have he : j = 8 := by omega
   subst he
   have R14 := Lib.hid (fun W => RK.out 14 W)
   have R15 := Lib.hid (fun W => RK.out 15 W)
   rw [show ((rk 14 : Nat) : Int) = 2 by decide] at R14
   rw [show ((rk 15 : Nat) : Int) = 1 by decide] at R15
   have I2 := fun W (hW : Below w.heap.size w W) => IS.out 5 wAnd W hW
   have I3 := fun W (hW : Below w.heap.size w W) => IS.out 5 wOr W hW
   have HN := Lib.hid (fun h2 h1 => bin_none (l := m) (r := r) HQ.out h2 h1)
   by_cases h2 : r = 2
   ·subst h2
    cases hv : isT 5 wAnd m with
    | true =>
     have HF : Hid (bin 2 m = 14) := Lib.hid (bin_and hv)
     rw [hv] at I2
     have I2 := Lib.hid I2
     clear hv I3 HN
     go_wp2_with fail
     refine (R14.out _).mono ?_
     rintro q w1 ⟨rfl, rfl⟩
     go_wp2_with fail
     refine (I2.out _ HB3.out).mono ?_
     rintro q w1 ⟨rfl, rfl⟩
     go_wp2_with fail
     go_ret
     exact ⟨by rw [HF.out]; rfl, HB3.out⟩
    | false =>
     have HF : Hid (bin 2 m = 0) := Lib.hid (HN.out (fun h => by rw [hv] at h; cases h.2) (fun h => by have := h.1; omega))
     rw [hv] at I2
     have I2 := Lib.hid I2
     clear hv I3 HN
     go_wp2_with fail
     refine (R14.out _).mono ?_
     rintro q w1 ⟨rfl, rfl⟩
     go_wp2_with fail
     refine (I2.out _ HB3.out).mono ?_
     rintro q w1 ⟨rfl, rfl⟩
     go_wp2_with fail
     refine (R15.out _).mono ?_
     rintro q w1 ⟨rfl, rfl⟩
     go_wp2_with fail
     go_ret
     exact ⟨by rw [HF.out]; rfl, HB3.out⟩
   ·by_cases h1 : r = 1
    ·subst h1
     cases hv : isT 5 wOr m with
     | true =>
      have HF : Hid (bin 1 m = 15) := Lib.hid (bin_or hv)
      rw [hv] at I3
      have I3 := Lib.hid I3
      clear hv I2 HN
      go_wp2_with fail
      refine (R14.out _).mono ?_
      rintro q w1 ⟨rfl, rfl⟩
      go_wp2_with fail
      refine (R15.out _).mono ?_
      rintro q w1 ⟨rfl, rfl⟩
      go_wp2_with fail
      refine (I3.out _ HB3.out).mono ?_
      rintro q w1 ⟨rfl, rfl⟩
      go_wp2_with fail
      go_ret
      exact ⟨by rw [HF.out]; rfl, HB3.out⟩
     | false =>
      have HF : Hid (bin 1 m = 0) := Lib.hid (HN.out (fun h => by have := h.1; omega) (fun h => by rw [hv] at h; cases h.2))
      rw [hv] at I3
      have I3 := Lib.hid I3
      clear hv I2 HN
      go_wp2_with fail
      refine (R14.out _).mono ?_
      rintro q w1 ⟨rfl, rfl⟩
      go_wp2_with fail
      refine (R15.out _).mono ?_
      rintro q w1 ⟨rfl, rfl⟩
      go_wp2_with fail
      refine (I3.out _ HB3.out).mono ?_
      rintro q w1 ⟨rfl, rfl⟩
      go_wp2_with fail
      go_ret
      exact ⟨by rw [HF.out]; rfl, HB3.out⟩
    ·have HF : Hid (bin r m = 0) := Lib.hid (HN.out (fun h => h2 h.1) (fun h => h1 h.1))
     have g2 : ((r : Int) == 2) = false := by rw [beq_eq_false_iff_ne]; omega
     have g1 : ((r : Int) == 1) = false := by rw [beq_eq_false_iff_ne]; omega
     clear I2 I3 HN h1 h2
     go_wp2_with fail
     refine (R14.out _).mono ?_
     rintro q w1 ⟨rfl, rfl⟩
     go_wp2_with fail
     refine (R15.out _).mono ?_
     rintro q w1 ⟨rfl, rfl⟩
     go_wp2_with fail
     go_ret
     exact ⟨by rw [HF.out]; rfl, HB3.out⟩
def nbB (l : List Tok) (k : Nat) : Bool := decide ((l.getD k T0).1 = 2) && nOk (l.getD k T0).2.2
theorem nbB_len {l : List Tok} {k : Nat} (h : nbB l k = true) : k < l.length := by
 rcases Nat.lt_or_ge k l.length with c | c
 ·exact c
 ·unfold nbB at h
  rw [List.getD_eq_getElem?_getD, List.getElem?_eq_none c] at h
  simp [T0] at h
set_option maxRecDepth 100000 in
set_option maxHeartbeats 2000000 in
theorem rnumber (ao : Option Addr) (c : Nat) (l : List Tok) (k : Nat) (w : World) (hT : TokensAt ao l w) (hk : k ≤ 100000) (hl : l.length ≤ 100000) (htx : ∀ t ∈ l, t.2.2.length ≤ 1000) :
  Calls Tryz.prog 75 #[.slice ao l.length c, .int .i64 (k : Int)] w fun q w' => ∃ v, q = .returned (.tuple #[.int .i64 v, .bool (nbB l k)]) ∧ (nbB l k = true → v = nV (l.getD k T0).2.2) ∧ w = w' := by
 obtain ⟨R, hR⟩ : ∃ R, nbB l k = R := ⟨_, rfl⟩
 rw [hR]
 unfold nbB at hR
 obtain ⟨n, hn⟩ : ∃ n, l.length = n := ⟨_, rfl⟩
 rw [hn] at hl ⊢
 by_cases hlt : k < n
 rotate_left
 ·have HR : Hid (R = false) := Lib.hid (by
   rw [← hR, List.getD_eq_getElem?_getD, List.getElem?_eq_none (by omega)]
   simp [T0])
  have hkz : ((n : Int) ≤ (k : Int)) := by omega
  clear hR hT hn htx
  go_enter Tryz.func75, Tryz.ntmps75
  go_wp2_with fail
  go_ret2
  exact ⟨_, by rw [HR.out]; rfl, (fun h => by rw [HR.out] at h; cases h), rfl⟩
 ·have hkz : ¬ ((n : Int) ≤ (k : Int)) := by omega
  have hmem := getD_mem' T0 l k (by omega)
  obtain ⟨b, off, rfl, hb, c0, c1, c2⟩ := hT k (by omega)
  have hkI : (k : Int) < (n : Int) := by omega
  obtain ⟨u, hu⟩ : ∃ u, l.getD k T0 = u := ⟨_, rfl⟩
  rw [hu] at hR c0 c1 c2 hmem ⊢
  have hux := htx u hmem
  obtain ⟨uk, ul, ux⟩ := u
  simp only at hR c0 c1 c2 hux ⊢
  clear hT hn hu htx hmem
  by_cases hkd : uk = 2
  rotate_left
  ·have HR : Hid (R = false) := Lib.hid (by rw [← hR, decide_eq_false hkd]; rfl)
   have g2 : (uk == 2) = false := by rw [beq_eq_false_iff_ne]; exact hkd
   clear hR hkd
   go_enter Tryz.func75, Tryz.ntmps75
   go_wp2_with fail
   go_ret2
   exact ⟨_, by rw [HR.out]; rfl, (fun h => by rw [HR.out] at h; cases h), rfl⟩
  ·subst hkd
   rw [decide_eq_true rfl, Bool.true_and] at hR
   unfold nOk at hR
   have TI := fun W => rtake (str ux) (by rw [str_size]; omega) W
   rw [str_list] at TI
   have HVV : Hid (nV ux = tiV ux) := Lib.hid rfl
   obtain ⟨V, hV⟩ : ∃ V, tiV ux = V := ⟨_, rfl⟩
   obtain ⟨X, hX⟩ : ∃ X, tiE ux = X := ⟨_, rfl⟩
   rw [hV, hX] at TI hR
   have HV := Lib.hid hV
   have TI := Lib.hid TI
   clear hV hX
   by_cases hX0 : X = 0
   ·subst hX0
    rw [decide_eq_true rfl, Bool.true_and] at hR
    by_cases hp : 0 ≤ V
    ·have HR : Hid (R = true) := Lib.hid (by rw [← hR]; exact decide_eq_true hp)
     have d0 : decide (0 ≤ V) = true := decide_eq_true hp
     clear hR
     go_enter Tryz.func75, Tryz.ntmps75
     go_wp2_with fail
     refine (TI.out _).mono ?_
     rintro q w1 ⟨rfl, rfl⟩
     go_wp2_with fail
     go_ret2
     exact ⟨_, by rw [HR.out]; rfl, (fun _ => by rw [HVV.out, HV.out]), rfl⟩
    ·have HR : Hid (R = false) := Lib.hid (by rw [← hR]; exact decide_eq_false hp)
     have d0 : decide (0 ≤ V) = false := decide_eq_false hp
     clear hR
     go_enter Tryz.func75, Tryz.ntmps75
     go_wp2_with fail
     refine (TI.out _).mono ?_
     rintro q w1 ⟨rfl, rfl⟩
     go_wp2_with fail
     go_ret2
     exact ⟨_, by rw [HR.out]; rfl, (fun h => by rw [HR.out] at h; cases h), rfl⟩
   ·have HR : Hid (R = false) := Lib.hid (by rw [← hR, decide_eq_false hX0]; rfl)
    have g0 : (X == 0) = false := by rw [beq_eq_false_iff_ne]; exact hX0
    clear hR hX0
    go_enter Tryz.func75, Tryz.ntmps75
    go_wp2_with fail
    refine (TI.out _).mono ?_
    rintro q w1 ⟨rfl, rfl⟩
    go_wp2_with fail
    go_ret2
    exact ⟨_, by rw [HR.out]; rfl, (fun h => by rw [HR.out] at h; cases h), rfl⟩
end Go.Proofs.YtplkphihmfhciaaGreatDoor

/- Expressions: what the document's reading gives, in memory: lists of operands that the call owns, results in boxes. -/
namespace Go.Proofs.YtplkphihmfhciaaGreatDoor
open Go Go.RowKit Go.Lib Go.Shelf WM TM EM

def Xv (n : Nat) (ob : Option Nat) (so : Option Addr) (l : List Ex) (W : World) : Prop :=
 ∀ W' : World, W.heap.size ≤ W'.heap.size → (∀ q, n ≤ q → q < W.heap.size → ob ≠ some q → W'.heap[q]? = W.heap[q]?) → ExprsAt so l W'
theorem Xv.xa {n : Nat} {ob : Option Nat} {so : Option Addr} {l : List Ex} {W : World} (h : Xv n ob so l W) : Xa n so l W :=
 fun W' hs hk => h W' hs fun q hq hl _ => hk q hq hl
theorem Xa.xv {n m : Nat} {ob : Option Nat} {so : Option Addr} {l : List Ex} {W : World} (h : Xa m so l W) (hb : ∀ g, ob = some g → g < m) (hn : n ≤ m) : Xv n ob so l W :=
 fun W' hs hk => h W' hs fun q hq hl => hk q (by omega) hl (fun e => by have := hb q e; omega)
theorem Xa.xvo {n b : Nat} {so : Option Addr} {l : List Ex} {W W' : World} (h : Xa n so l W) (hb : W.heap.size ≤ b) (hw : Below W.heap.size W W') : Xv n (some b) so l W' :=
 fun W2 hs hk => h W2 (Nat.le_trans hw.size hs) fun q hq hl => (hk q hq (Nat.lt_of_lt_of_le hl hw.size) (fun e => by cases e; omega)).trans (hw.block q hl)
theorem Xv.below {n : Nat} {ob : Option Nat} {so : Option Addr} {l : List Ex} {W W' : World} (h : Xv n ob so l W) (hw : Below W.heap.size W W') : Xv n ob so l W' :=
 fun W2 hs hk => h W2 (Nat.le_trans hw.size hs) fun q hq hl ho => (hk q hq (Nat.lt_of_lt_of_le hl hw.size) ho).trans (hw.block q hl)
theorem size_set (W : World) (p : Addr) (v : Value) : (W.setCell p v).heap.size = W.heap.size := by simp [World.setCell]
theorem Xv.set {n b : Nat} {ob : Option Nat} {so : Option Addr} {l : List Ex} {W : World} (h : Xv n ob so l W) (hb : b < n ∨ ob = some b) (j : Nat) (v : Value) : Xv n ob so l (W.setCell ⟨b, j, none⟩ v) := by
 intro W2 hs hk
 rw [size_set] at hs hk
 refine h W2 hs fun q hq hl ho => (hk q hq hl ho).trans (Below.heap_setCell W ⟨b, j, none⟩ v q (show q ≠ b from fun e => ?_))
 subst e
 rcases hb with hb | hb
 ·omega
 ·exact ho hb
theorem Xv.two {n b : Nat} {W : World} (x y : Nd) (hx : Xv n (some b) x.2.1 x.1.args W) (hxc : x.2.1 = none → x.2.2 = 0) (hy : Xv n (some b) y.2.1 y.1.args W) (hyc : y.2.1 = none → y.2.2 = 0) (hn : n ≤ W.heap.size) (hb : b < W.heap.size) (t : TypeId) :
  Xv n (some b) (some ⟨W.heap.size, 0, none⟩) [x.1, y.1] (W.alloc (.cells #[.int .i64 x.1.op, .int .i64 x.1.n, .string (str x.1.s), .slice x.2.1 x.1.args.length x.2.2, .int .i64 y.1.op, .int .i64 y.1.n, .string (str y.1.s), .slice y.2.1 y.1.args.length y.2.2] t)) := by
 intro W' hs hk
 have hsz : (W.alloc (.cells #[.int .i64 x.1.op, .int .i64 x.1.n, .string (str x.1.s), .slice x.2.1 x.1.args.length x.2.2, .int .i64 y.1.op, .int .i64 y.1.n, .string (str y.1.s), .slice y.2.1 y.1.args.length y.2.2] t)).heap.size = W.heap.size + 1 := by simp
 rw [hsz] at hs hk
 have hB := hk W.heap.size hn (by omega) (fun e => by cases e; omega)
 have hc : ∀ j u, (xrow [x, y])[j]? = some u → W'.cell? ⟨W.heap.size, 0 + j, none⟩ = some u := by
  intro j u hu
  rw [World.cell?_of_block (a := ⟨W.heap.size, 0 + j, none⟩) hB, World.cell?_alloc_new, Nat.zero_add, List.getElem?_toArray]
  exact hu
 have key : ∀ z : Nd, Xv n (some b) z.2.1 z.1.args W → ExprsAt z.2.1 z.1.args W' := fun z hz => hz W' (by omega) (fun q hq hl ho => (hk q hq (by omega) ho).trans ((bal (bref W) _).block q hl))
 refine ExprsAt.mk fun i hi => ?_
 match i, hi with
 | 0, _ => exact ⟨W.heap.size, 0, x.2.1, x.2.2, rfl, by omega, hc 0 _ rfl, hc 1 _ rfl, hc 2 _ rfl, hc 3 _ rfl, key x hx, hxc⟩
 | 1, _ => exact ⟨W.heap.size, 0, y.2.1, y.2.2, rfl, by omega, hc 4 _ rfl, hc 5 _ rfl, hc 6 _ rfl, hc 7 _ rfl, key y hy, hyc⟩
def OE (base : Nat) (v : Value) (xs : List Nd) (W : World) : Prop :=
 W.ownsRow base 27 4 v xs.length (xrow xs) ∧ ∀ x ∈ xs, Xv base v.ownBlock x.2.1 x.1.args W ∧ (x.2.1 = none → x.2.2 = 0)
theorem OE.nil (base : Nat) (W : World) : OE base (.slice none 0 0) [] W := ⟨World.ownsRow_nil _ _ _ _, fun x hx => by cases hx⟩
theorem OE.keep {base : Nat} {v : Value} {xs : List Nd} {W W' : World} (h : OE base v xs W) (hb : Below W.heap.size W W') : OE base v xs W' :=
 ⟨own_below h.1 hb, fun x hx => ⟨(h.2 x hx).1.below hb, (h.2 x hx).2⟩⟩
theorem OE.set {base b : Nat} {v : Value} {xs : List Nd} {W : World} (h : OE base v xs W) (hb : b < base) (j : Nat) (u : Value) : OE base v xs (W.setCell ⟨b, j, none⟩ u) :=
 ⟨ownP_same h.1 (fun g hg => Below.heap_setCell W ⟨b, j, none⟩ u g (show g ≠ b by have := (ownP_lt h.1 hg).1; omega)), fun x hx => ⟨(h.2 x hx).1.set (Or.inl hb) j u, (h.2 x hx).2⟩⟩
theorem OE.app {base m : Nat} {v v' : Value} {xs : List Nd} {W W' : World} (h : OE base v xs W) (x : Nd) (hx : Xa m x.2.1 x.1.args W) (hc : x.2.1 = none → x.2.2 = 0) (hown : ∀ g, v.ownBlock = some g → g < m) (hm : base ≤ m)
  (own : W'.ownsRow base 27 4 v' (xs.length + 1) (xrow xs ++ xrow [x])) (gx : W.grownBy W' v.ownBlock) (hl : v'.ownBlock = v.ownBlock ∨ v'.ownBlock = some W.heap.size) : OE base v' (xs ++ [x]) W' := by
 refine ⟨by rw [xrow_app, List.length_append]; exact own, ?_⟩
 have key : ∀ y : Nd, Xv base v.ownBlock y.2.1 y.1.args W → Xv base v'.ownBlock y.2.1 y.1.args W' := by
  intro y hy W2 hs hk
  refine hy W2 (Nat.le_trans gx.size hs) fun q hq hlq ho => (hk q hq (Nat.lt_of_lt_of_le hlq gx.size) (fun e => ?_)).trans (gx.block q hlq (fun e => ho e.symm))
  rcases hl with hl | hl
  ·exact ho (hl.symm.trans e)
  ·rw [hl] at e; cases e; omega
 intro y hy
 rcases List.mem_append.1 hy with hy | hy
 ·exact ⟨key y (h.2 y hy).1, (h.2 y hy).2⟩
 ·rw [List.mem_singleton] at hy
  subst hy
  exact ⟨key y (hx.xv hown hm), hc⟩
theorem OE.shape {base : Nat} {v : Value} {xs : List Nd} {W : World} (h : OE base v xs W) : ∃ so cap, v = .slice so xs.length cap ∧ (so = none → cap = 0) := by
 rcases h.1.2 with ⟨h1, h2⟩ | ⟨g, cap, cur, h1, _⟩
 ·exact ⟨none, 0, by rw [h1, h2], fun _ => rfl⟩
 ·exact ⟨_, cap, h1, fun e => by cases e⟩
theorem OE.xa {base : Nat} {so : Option Addr} {n cap : Nat} {xs : List Nd} {W : World} (h : OE base (.slice so n cap) xs W) : Xa base so (xs.map (·.1)) W := by
 intro W' hs hk
 obtain ⟨⟨h0, h1⟩, h2⟩ := h
 rcases h1 with ⟨_, hn⟩ | ⟨g, cap', cur, hv, hb, hg, hnc, _, hcs, htake⟩
 ·have : xs = [] := List.eq_nil_of_length_eq_zero hn
  subst this
  exact ExprsAt.nil _ _
 ·cases hv
  have hgl := (Array.getElem?_eq_some_iff.1 hg).1
  have hg' : W'.heap[g]? = some (.cells cur 27) := (hk g hb hgl).trans hg
  have hc : ∀ j u, (xrow xs)[j]? = some u → W'.cell? ⟨g, 0 + j, none⟩ = some u := by
   intro j u hu
   have hj : j < (xrow xs).length := (List.getElem?_eq_some_iff.1 hu).1
   rw [xrow_length] at hj
   rw [Nat.zero_add, cell_of_row _ _ j cur _ (0, 0) hg', ← Array.getElem?_toList, ← hu, ← htake, List.getElem?_take, if_pos (by omega)]
  refine ExprsAt.mk fun i hi => ?_
  rw [List.length_map] at hi
  have hx : (xs.map (·.1)).getD i E0 = xs[i].1 := by simp [List.getD, hi]
  rw [hx]
  have q : ∀ j, j < 4 → ∀ u, (xcs xs[i])[j]? = some u → W'.cell? ⟨g, 0 + i * 4 + j, none⟩ = some u := by
   intro j hj u hu
   rw [Nat.add_assoc]
   exact hc (i * 4 + j) u (by rw [xrow_at xs i hi j hj]; exact hu)
  obtain ⟨h3, h4⟩ := h2 xs[i] (List.getElem_mem hi)
  exact ⟨g, 0, xs[i].2.1, xs[i].2.2, rfl, by omega, q 0 (by omega) _ rfl, q 1 (by omega) _ rfl, q 2 (by omega) _ rfl, q 3 (by omega) _ rfl, h3 W' hs (fun q hq hl _ => hk q hq hl), h4⟩

/-! ### Results -/
structure Ag (b : Nat) (U W : World) : Prop where
 os : U.os = W.os
 tape : U.tape = W.tape
 output : U.output = W.output
 size : U.heap.size = W.heap.size
 same : ∀ q, q ≠ b → U.heap[q]? = W.heap[q]?
theorem Ag.refl (b : Nat) (W : World) : Ag b W W := ⟨rfl, rfl, rfl, rfl, fun _ _ => rfl⟩
theorem Ag.set {b : Nat} {U W : World} (h : Ag b U W) (j : Nat) (v : Value) : Ag b (U.setCell ⟨b, j, none⟩ v) W :=
 ⟨h.os, h.tape, h.output, (size_set _ _ _).trans h.size, fun q hq => (Below.heap_setCell U ⟨b, j, none⟩ v q hq).trans (h.same q hq)⟩
theorem Ag.alloc {b : Nat} {U W : World} (h : Ag b U W) (o : Obj) : Ag b (U.alloc o) (W.alloc o) := by
 refine ⟨h.os, h.tape, h.output, by simp [h.size], fun q hq => ?_⟩
 show (U.heap.push o)[q]? = (W.heap.push o)[q]?
 rw [Array.getElem?_push, Array.getElem?_push, h.size]
 split
 ·rfl
 ·exact h.same q hq
theorem Ag.below {b n : Nat} {w U W : World} (h : Ag b U W) (hw : Below n w W) (hb : n ≤ b) : Below n w U :=
 ⟨h.os.trans hw.os, h.tape.trans hw.tape, h.output.trans hw.output, by rw [h.size]; exact hw.size, fun q hq => (h.same q (by omega)).trans (hw.block q hq)⟩
theorem Ag.xa {b n : Nat} {so : Option Addr} {l : List Ex} {U W : World} (h : Ag b U W) (hx : Xa n so l W) (hb : b < n) : Xa n so l U :=
 hx.mv (by rw [h.size]; exact Nat.le_refl _) (fun q hq _ => h.same q (by omega))
def RD (l : List Tok) (w : World) (o : Out) (q : Ending) (w' : World) : Prop :=
 match o with
 | .ok e _ m => ∃ k' so cap, m = l.drop k' ∧ k' ≤ l.length ∧ q = .returned (.tuple #[.agg #[.int .i64 e.op, .int .i64 e.n, .string (str e.s), .slice so e.args.length cap], .int .i64 ((k' : Nat) : Int), .bool true]) ∧ Xa w.heap.size so e.args w' ∧ (so = none → cap = 0) ∧ Below w.heap.size w w'
 | .bad m => ∃ k', m = l.drop k' ∧ k' ≤ l.length ∧ q = .returned (.tuple #[.agg #[.int .i64 0, .int .i64 0, .string ⟨#[]⟩, .slice none 0 0], .int .i64 ((k' : Nat) : Int), .bool false]) ∧ Below w.heap.size w w'
theorem RD.ok {l : List Tok} {w U W : World} {e : Ex} {kk k' : Nat} {so : Option Addr} {cap : Nat} (hk : k' ≤ l.length) (hx : Xa (w.heap.size + 1) so e.args W) (hc : so = none → cap = 0) (hA : Ag w.heap.size U W) (hB : Below w.heap.size w W) :
  RD l w (.ok e kk (l.drop k')) (.returned (.tuple #[.agg #[.int .i64 e.op, .int .i64 e.n, .string (str e.s), .slice so e.args.length cap], .int .i64 ((k' : Nat) : Int), .bool true])) U :=
 ⟨k', so, cap, rfl, hk, rfl, (hA.xa hx (by omega)).mono (by omega), hc, hA.below hB (Nat.le_refl _)⟩
theorem RD.bad {l : List Tok} {w U W : World} {k' : Nat} (hk : k' ≤ l.length) (hA : Ag w.heap.size U W) (hB : Below w.heap.size w W) :
  RD l w (.bad (l.drop k')) (.returned (.tuple #[.agg #[.int .i64 0, .int .i64 0, .string ⟨#[]⟩, .slice none 0 0], .int .i64 ((k' : Nat) : Int), .bool false])) U :=
 ⟨k', rfl, hk, rfl, hA.below hB (Nat.le_refl _)⟩
theorem res_ex3 {fn : Func} {p a b : Tmp} (h : fn.results = #[.cell p 27, .tmp a, .tmp b]) (tmps : Array Value) (w : World) (bk : Nat) (hp : tmps.getD p undef = .pointer (some ⟨bk, 0, none⟩)) (x0 x1 x2 x3 : Value) (h0 : w.cell? ⟨bk, 0, none⟩ = some x0) (h1 : w.cell? ⟨bk, 1, none⟩ = some x1) (h2 : w.cell? ⟨bk, 2, none⟩ = some x2) (h3 : w.cell? ⟨bk, 3, none⟩ = some x3) (y z : Value) (hy : tmps.getD a undef = y) (hz : tmps.getD b undef = z) :
  (results fn tmps).run Tryz.prog w = .ok (.tuple #[.agg #[x0, x1, x2, x3], y, z]) w := by
 rw [Array.getD_eq_getD_getElem?] at hp hy hz
 simp [results, h, hp, hy, hz, go_sem, h0, h1, h2, h3]
structure Dc (wb : World) (ao : Option Addr) (l : List Tok) : Prop where
 lie : TokensAt ao l wb
 len : l.length ≤ 1000
 txt : ∀ t ∈ l, t.2.2.length ≤ 1000
def PC (wb : World) (ao : Option Addr) (c : Nat) (l : List Tok) (k r : Nat) : Prop := ∀ (y z : Int) (w : World), y = (k : Int) → z = (r : Int) → Below wb.heap.size wb w →
 Calls Tryz.prog 30 #[.slice ao l.length c, .int .i64 y, .int .i64 z] w fun q w' => ∃ o, ED r (l.drop k) o ∧ RD l w o q w'
def un (op : Int) (r : Nat) : Out → Out
 | .ok e _ m => .ok (.mk op 0 [] [e]) r m
 | .bad m => .bad m
end Go.Proofs.YtplkphihmfhciaaGreatDoor
