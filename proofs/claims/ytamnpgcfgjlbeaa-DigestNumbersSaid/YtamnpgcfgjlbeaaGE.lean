/-
  Package digest's Hex.
-/
import Derived.Test.YtamnpgcfgjlbeaaGD
import Derived.RegionTactic
import Derived.Laws.BitsLemmas
namespace Go.Proofs.Ytamnpgcfgjlbeaa
open Go Go.RowKit Go.Lib GM

/-- n cells of one block, not frozen. -/
def TabB (w : World) (b n : Nat) (f : Nat → Value) : Prop := ∀ i, i < n → w.cell? ⟨b, i, none⟩ = some (f i) ∧ w.frozen? ⟨b, i, none⟩ = false
theorem TabB.draw {w : World} {b n : Nat} {f : Nat → Value} (h : TabB w b n f) (m : Nat) : TabB (w.drewN m) b n f := by
  intro i hi
  have := h i hi
  simpa using this
theorem TabB.put {w : World} {b n : Nat} {f g : Nat → Value} (h : TabB w b n f) (q : Nat) (v : Value) (hv : v = g q) (hg : ∀ i, i < n → i ≠ q → g i = f i) : TabB (w.setCell ⟨b, q, none⟩ v) b n g := by
  intro i hi
  refine ⟨?_, by have := (h i hi).2; simpa using this⟩
  by_cases e : i = q
  · subst e
    rw [← hv]
    exact World.cell?_setCell_same _ _ _ (h i hi).1
  · rw [World.cell?_setCell_other _ _ _ _ (by intro c; injection c with _ c _; exact e c.symm), hg i hi e]
    exact (h i hi).1
theorem TabB.put2 {w : World} {b n : Nat} {f g : Nat → Value} (h : TabB w b n f) (p q : Nat) (hpq : p ≠ q) (x y : Value) (hx : x = g p) (hy : y = g q) (hg : ∀ i, i < n → i ≠ p → i ≠ q → g i = f i) : TabB ((w.setCell ⟨b, p, none⟩ x).setCell ⟨b, q, none⟩ y) b n g := by
  have h1 : TabB (w.setCell ⟨b, p, none⟩ x) b n (fun i => if i = p then x else f i) := h.put p x (by simp) (fun i _ hi => by simp [hi])
  refine h1.put q y hy (fun i hi hiq => ?_)
  by_cases e : i = p
  · subst e; simp [hx]
  · simp [e, hg i hi e hiq]

theorem hx_get (n : Nat) : ∀ (h i : Nat), i < n → (hx n h).getD i 0 = hdg (h / 16 ^ (n - 1 - i) % 16) := by
  induction n with
  | zero => intro h i hi; omega
  | succ n ih =>
    intro h i hi
    show (hx n (h / 16) ++ [hdg (h % 16)]).getD i 0 = _
    have hl := hx_length n (h / 16)
    by_cases e : i = n
    · subst e
      rw [List.getD_eq_getElem?_getD, List.getElem?_append_right (by omega), hl]
      simp
    · have h1 := ih (h / 16) i (by omega)
      rw [List.getD_eq_getElem?_getD, List.getElem?_append_left (by omega), ← List.getD_eq_getElem?_getD, h1, Nat.div_div_eq_div_mul]
      rw [show n + 1 - 1 - i = (n - 1 - i) + 1 by omega, Nat.pow_succ, Nat.mul_comm 16]
theorem hex_hi (h k : Nat) (hk : k < 8) : (hex h).getD (2 * (7 - k)) 0 = hdg ((by8 h k).toNat / 16) := by
  unfold hex
  rw [hx_get 16 h _ (by omega), by8_nat]
  have e : 16 ^ (16 - 1 - 2 * (7 - k)) = 256 ^ k * 16 := by
    rw [show 16 - 1 - 2 * (7 - k) = 2 * k + 1 by omega, Nat.pow_succ, Nat.pow_mul]
  rw [e, ← Nat.div_div_eq_div_mul]
  congr 1
  generalize h / 256 ^ k = x
  omega
theorem hex_lo (h k : Nat) (hk : k < 8) : (hex h).getD (2 * (7 - k) + 1) 0 = hdg ((by8 h k).toNat % 16) := by
  unfold hex
  rw [hx_get 16 h _ (by omega), by8_nat]
  have e : 16 ^ (16 - 1 - (2 * (7 - k) + 1)) = 256 ^ k := by
    rw [show 16 - 1 - (2 * (7 - k) + 1) = 2 * k by omega, Nat.pow_mul]
  rw [e]
  congr 1
  generalize h / 256 ^ k = x
  omega
theorem sixteen (i : Nat) (h : i < 16) : i = 0 ∨ i = 1 ∨ i = 2 ∨ i = 3 ∨ i = 4 ∨ i = 5 ∨ i = 6 ∨ i = 7 ∨ i = 8 ∨ i = 9 ∨ i = 10 ∨ i = 11 ∨ i = 12 ∨ i = 13 ∨ i = 14 ∨ i = 15 := by omega
theorem tab_zero (w : World) (t : TypeId) : TabB (w.alloc (.cells #[.int .u8 0, .int .u8 0, .int .u8 0, .int .u8 0, .int .u8 0, .int .u8 0, .int .u8 0, .int .u8 0, .int .u8 0, .int .u8 0, .int .u8 0, .int .u8 0, .int .u8 0, .int .u8 0, .int .u8 0, .int .u8 0] t)) w.heap.size 16 (fun _ => .int .u8 0) := by
  intro i hi
  rcases sixteen i hi with e | e | e | e | e | e | e | e | e | e | e | e | e | e | e | e <;> subst e <;> simp [go_sem]
theorem dig_get (d : Nat) (h : d < 16) : (⟨#[48, 49, 50, 51, 52, 53, 54, 55, 56, 57, 97, 98, 99, 100, 101, 102]⟩ : ByteArray)[d]'h = hdg d := by
  have key : ∀ r : Fin 16, (⟨#[48, 49, 50, 51, 52, 53, 54, 55, 56, 57, 97, 98, 99, 100, 101, 102]⟩ : ByteArray)[r.val]'r.isLt = hdg r.val := by decide
  exact key ⟨d, h⟩
/-- The form behind k rounds. -/
def fill (h k i : Nat) : Value := .int .u8 (if 2 * (8 - k) ≤ i then (((hex h).getD i 0).toNat : Int) else 0)

set_option maxRecDepth 100000 in
set_option maxHeartbeats 1000000 in
theorem mhexf (h : Nat) (w : World) :
    Calls Try.prog 19 #[.int .u64 h] w fun e w' => e = .returned (.string (str (hex h))) ∧ Below w.heap.size w w' := by
  have B := Lib.hid (fun k hk W => mbyteOf h k hk W)
  go_enter Try.func19, Try.ntmps19
  go_wp2_with fail
  go_loopw [4, 5, 6, 7] (fun _ _ _ i wr => ∃ (k : Nat), k ≤ 8 ∧ i = .int .i64 k ∧ TabB wr w.heap.size 16 (fill h k) ∧ Below w.heap.size w wr) (fun _ _ _ i _ => 8 - (RowKit.intOf i).toNat)
  case atStart => exact ⟨0, by omega, rfl, fun i hi => by
      have h1 := tab_zero w 45 i hi
      have h2 : fill h 0 i = .int .u8 0 := by unfold fill; rw [if_neg (by omega)]
      rw [h2]; exact h1, bal (bref w) _⟩
  case round =>
    obtain ⟨k, hk, rfl, hT, hB⟩ := hrel
    have HT := Lib.hid hT
    have HB := Lib.hid hB
    by_cases hlt : k < 8
    · have hkz : (k : Int) < 8 := by omega
      have B1 := B.out k hlt
      have f1 := hex_hi h k hlt
      have f2 := hex_lo h k hlt
      have hc256 := (by8 h k).toNat_lt
      obtain ⟨c, hc⟩ : ∃ c, (by8 h k).toNat = c := ⟨_, rfl⟩
      rw [hc] at B1 f1 f2 hc256
      have B2 := Lib.hid B1
      have e1 := u8_and15 (x := (c : Int)) (by omega) (by omega)
      obtain ⟨q1, hq1⟩ : ∃ q, c / 16 = q := ⟨_, rfl⟩
      obtain ⟨q2, hq2⟩ : ∃ q, c % 16 = q := ⟨_, rfl⟩
      have e2 : (c : Int) % 16 = (q2 : Int) := by omega
      have e3 : (c : Int) / 16 = (q1 : Int) := by omega
      rw [e2] at e1
      have l1 : q1 < 16 := by omega
      have l2 : q2 < 16 := by omega
      have z1 : (q1 : Int) < 16 := by omega
      have z2 : (q2 : Int) < 16 := by omega
      have g1 := dig_get q1 l1
      have g2 := dig_get q2 l2
      rw [hq1] at f1
      rw [hq2] at f2
      obtain ⟨D1, hD1⟩ : ∃ D, hdg q1 = D := ⟨_, rfl⟩
      obtain ⟨D2, hD2⟩ : ∃ D, hdg q2 = D := ⟨_, rfl⟩
      rw [hD1] at f1 g1
      rw [hD2] at f2 g2
      obtain ⟨p, hp⟩ : ∃ p, 2 * (7 - k) = p := ⟨_, rfl⟩
      rw [hp] at f1 f2
      have e4 : 2 * (7 - (k : Int)) = (p : Int) := by omega
      have p0 : (p : Int) + 1 < 16 := by omega
      have p1 : p + 1 < 16 := by omega
      have p2 : p < 16 := by omega
      have p3 : (p : Int) < 16 := by omega
      have c1 := (hT p p2).1
      have c2 := (hT p p2).2
      have c3 := (hT (p + 1) p1).1
      have c4 := (hT (p + 1) p1).2
      have F1 := Lib.hid f1
      have F2 := Lib.hid f2
      have HP := Lib.hid (show p = 2 * (7 - k) from hp.symm)
      clear B1 f1 f2 hc hq1 hq2 hD1 hD2 hp hT hB e2
      go_wp2_with fail
      refine (B2.out _).mono ?_
      rintro e w1 ⟨rfl, rfl⟩
      go_wp2_with fail
      go_region
      have HT2 : Hid (TabB ((wr.setCell ⟨w.heap.size, p, none⟩ (.int .u8 (D1.toNat : Int))).setCell ⟨w.heap.size, p + 1, none⟩ (.int .u8 (D2.toNat : Int))).drew w.heap.size 16 (fill h (k + 1))) := Lib.hid ((HT.out.put2 p (p + 1) (by omega) (.int .u8 (D1.toNat : Int)) (.int .u8 (D2.toNat : Int)) (by
          unfold fill
          rw [F1.out, if_pos (by rw [HP.out]; omega)]) (by
          unfold fill
          rw [F2.out, if_pos (by rw [HP.out]; omega)]) (fun i hi h1 h2 => by
          have h3 := HP.out
          unfold fill
          by_cases c : 2 * (8 - k) ≤ i
          · rw [if_pos c, if_pos (by omega)]
          · rw [if_neg c, if_neg (by omega)])).draw 1)
      have HB2 : Hid (Below w.heap.size w ((wr.setCell ⟨w.heap.size, p, none⟩ (.int .u8 (D1.toNat : Int))).setCell ⟨w.heap.size, p + 1, none⟩ (.int .u8 (D2.toNat : Int))).drew) := Lib.hid (((HB.out.setCell (Nat.le_refl _) _).setCell (Nat.le_refl _) _).drew)
      clear c1 c2 c3 c4
      go_wp2_with fail
      go_roundw
      case rel => exact ⟨k + 1, by omega, by go_num, HT2.out, HB2.out⟩
      case measure => simp [RowKit.intOf]; omega
    · have he : k = 8 := by omega
      subst he
      have hb : BytesAt w.heap.size 0 (hex h) wr := fun j hj => by
        have hl : (hex h).length = 16 := hx_length 16 h
        rw [Nat.zero_add, (hT j (by omega)).1]
        unfold fill
        rw [if_pos (by omega)]
      have hcv := conv_bytes w.heap.size 0 16 (hex h) 16 (hx_length 16 h) wr hb
      clear hb hT hB HT
      go_wp2_with fail
      go_ret
      exact ⟨rfl, HB.out⟩
end Go.Proofs.Ytamnpgcfgjlbeaa
