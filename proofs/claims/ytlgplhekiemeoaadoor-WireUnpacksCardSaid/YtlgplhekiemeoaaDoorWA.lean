/-
  Decimal forms: contracts of package wire's Int, and of the document's own.
-/
import Derived.Test.YtlgplhekiemeoaaDoorProg
import Derived.Test.YtlgplhekiemeoaaDoorWM
import Derived.Test.YtlgplhekiemeoaaDoorShelf
import Derived.WalkKit
import Derived.WalkMore
import Derived.Outline
import Derived.Below
import Derived.Lib.Hide
import Derived.Lib.Walk
import Derived.Lib.ItoaWalk
import Derived.Laws.Externs
import Derived.Laws.Slices
import Derived.Laws.Strings3
import Derived.Deep.QuietTactic
import Derived.BigQuiet
import Derived.BigCall
import Derived.BigGuard
import Derived.WalkSpells
import Derived.IntWalk
import Derived.LoopN
import Derived.Deep.LoopGhost
import Derived.Lib.LaidTab
namespace Go.Proofs.YtlgplhekiemeoaaDoor
open Go Go.RowKit Go.Lib WM

theorem bal {w w' : World} (h : Below w.heap.size w w') (o : Obj) : Below w.heap.size w (w'.alloc o) := h.alloc h.size _
theorem btr {w w' w'' : World} (h : Below w.heap.size w w') (k : Below w'.heap.size w' w'') : Below w.heap.size w w'' := h.trans (k.mono h.size)
theorem bref (w : World) : Below w.heap.size w w := Below.refl _ _
theorem bdr {w w' : World} (h : Below w.heap.size w w') : Below w.heap.size w w'.drew := h.drew
theorem bdn {w w' : World} (h : Below w.heap.size w w') (n : Nat) : Below w.heap.size w (w'.drewN n) := ⟨h.os, h.tape, h.output, h.size, h.block⟩
theorem ten_piece (r : Nat) (h : r < 10) : (⟨#[48, 49, 50, 51, 52, 53, 54, 55, 56, 57]⟩ : ByteArray).extract r (r + 1) = str [UInt8.ofNat (48 + r)] := by
  have key : ∀ r : Fin 10, (⟨#[48, 49, 50, 51, 52, 53, 54, 55, 56, 57]⟩ : ByteArray).extract r.val (r.val + 1) = str [UInt8.ofNat (48 + r.val)] := by decide
  exact key ⟨r, h⟩
theorem str_isEmpty (s : List UInt8) : (str s).toList.isEmpty = s.isEmpty := by rw [Lib.toList_data, str_list]
/-- The library's table of the powers of ten reads as its text lays it. -/
def Tb (w : World) : Prop := Lib.TabIs Tryd.prog w "internal/strconv.uint64pow10" .u64 Lib.pow10Tab
theorem Tb.keep {w w' : World} (h : Tb w) (hb : Below w.heap.size w w') : Tb w' := Lib.tabBelow_of_tabIs h w' hb
theorem ofInt_toNat (x : Int) (hx : 0 ≤ x ∧ x < 18446744073709551616) : ((BitVec.ofInt 64 x).toNat : Int) = x := by
  rw [BitVec.toNat_ofInt]; omega
/-- The complement of a uint64. -/
theorem u64_not (x : Int) (hx : 0 ≤ x ∧ x < 18446744073709551616) : bits .xor .u64 IntKind.u64.max x = 18446744073709551615 - x := by
  have h : bits .xor .u64 IntKind.u64.max x = IntKind.u64.wrap ((BitVec.ofInt 64 IntKind.u64.max ^^^ BitVec.ofInt 64 x).toNat : Int) := rfl
  have e : BitVec.ofInt 64 IntKind.u64.max = BitVec.allOnes 64 := by decide
  rw [h, e, BitVec.allOnes_xor, BitVec.toNat_not, IntKind.wrap_u64]
  have h2 := ofInt_toNat x hx
  omega
theorem mint (n : Int) (hn : I64 n) (w : World) (ht : Tb w) :
    Calls Tryd.prog 18 #[.int .i64 n] w fun e w' => e = .returned (.string (str (itoa n))) ∧ Below w.heap.size w w' := by
  have I := fun W hT => Tryd.strconv_Itoa n hn.1 hn.2 W hT
  have I := Lib.hid I
  go_enter Tryd.func18, Tryd.ntmps18
  go_wp2_with fail
  refine (I.out _ ht).mono ?_
  rintro e w1 ⟨rfl, k, os, hw⟩
  have q1 : Below w.heap.size w w1 := by rw [hw]; exact Lib.below_grow w.heap.size w (Nat.le_refl _) k os
  clear hw
  go_wp2_with fail
  go_ret
  exact ⟨rfl, q1⟩

set_option maxRecDepth 100000 in
set_option maxHeartbeats 1000000 in
theorem rnatural (M : Nat) (hM : M < 18446744073709551616) (w : World) :
    Calls Tryd.prog 32 #[.int .u64 M] w fun e w' => e = .returned (.string (str (decDigits M))) ∧ w = w' := by
  have HM := Lib.hid hM
  clear hM
  go_enter Tryd.func32, Tryd.ntmps32
  go_wp2
  go_loopg [0, 3] (M + 1) (fun g n x wr => ∃ (m : Nat) (s : List UInt8), g = (if m = 0 ∧ s ≠ [] then 0 else m + 1) ∧ n = .int .u64 m ∧ x = .string (str s) ∧ m < 18446744073709551616 ∧ TextAt M m s ∧ wr = w)
  case atStart => exact ⟨M, [], by simp, rfl, rfl, HM.out, text_start M, rfl⟩
  case round =>
    obtain ⟨m, s, hg, rfl, rfl, hm, hT, rfl⟩ := hrel
    have hsl := text_len hT HM.out
    have hsz : (str s).size ≤ 20 := by rw [str_size]; exact hsl
    obtain ⟨S, hS⟩ : ∃ S, str s = S := ⟨_, rfl⟩
    have hemp : S.toList.isEmpty = s.isEmpty := by rw [← hS]; exact str_isEmpty s
    rw [hS] at hsz
    simp only [hS]
    obtain ⟨r, hr⟩ : ∃ r : Nat, m % 10 = r := ⟨_, rfl⟩
    obtain ⟨q, hq⟩ : ∃ q : Nat, m / 10 = q := ⟨_, rfl⟩
    have hr9 : r < 10 := by omega
    have hrz : (r : Int) + 1 ≤ 10 := by omega
    have e1 : (m : Int) % 10 = (r : Int) := by omega
    have e2 : (m : Int) / 10 = (q : Int) := by omega
    have hcs : ((⟨#[48, 49, 50, 51, 52, 53, 54, 55, 56, 57]⟩ : ByteArray).extract r (r + 1)).size ≤ 1 := by rw [ByteArray.size_extract]; omega
    rcases text_more hT with hgo | ⟨h1, h2, h3⟩
    · have hcase : (S.toList.isEmpty = true) ∨ (S.toList.isEmpty = false ∧ (0 : Int) < (m : Int)) := by
        rw [hemp]
        cases hq : s.isEmpty
        · have hne : s ≠ [] := by intro h; rw [h] at hq; simp at hq
          exact Or.inr ⟨rfl, by rcases hgo with h | h; exact absurd h hne; omega⟩
        · exact Or.inl rfl
      have HN : Hid (TextAt M q (UInt8.ofNat (48 + m % 10) :: s)) := Lib.hid (by rw [← hq]; exact text_step hT hgo)
      have HG : Hid ((if q = 0 then 0 else q + 1) < gk) := Lib.hid (text_down hg hgo hq)
      have HE : Hid ((⟨#[48, 49, 50, 51, 52, 53, 54, 55, 56, 57]⟩ : ByteArray).extract r (r + 1) ++ S = str (UInt8.ofNat (48 + m % 10) :: s)) := Lib.hid (by
        rw [ten_piece r hr9, ← hS, str_app, hr]; rfl)
      have HQ := Lib.hid (show q < 18446744073709551616 by omega)
      clear hgo hT hS hr hq hg hemp
      rcases hcase with h1 | ⟨h1, h2⟩
      all_goals
        go_wp2_with fail
        go_roundg (if q = 0 then 0 else q + 1)
        case measure => exact HG.out
        case rel => exact ⟨q, _, by simp, by go_num, by rw [HE.out], HQ.out, HN.out, rfl⟩
    · have hE : S.toList.isEmpty = false := by rw [hemp]; cases s; exact absurd rfl h1; rfl
      have HR : Hid (S = str (decDigits M)) := Lib.hid (by rw [← hS, h3])
      have h2z : ¬ (0 : Int) < (m : Int) := by omega
      clear hT hS hr hq hg hemp h1 h2 h3
      go_wp2_with fail
      go_ret
      exact ⟨by rw [HR.out]; rfl, rfl⟩

theorem rint (n : Int) (hn : I64 n) (w : World) :
    Calls Tryd.prog 19 #[.int .i64 n] w fun e w' => e = .returned (.string (str (itoa n))) ∧ w = w' := by
  obtain ⟨h0, h1⟩ := hn
  by_cases c : 0 ≤ n
  · obtain ⟨M, rfl⟩ : ∃ M : Nat, n = M := ⟨n.toNat, by omega⟩
    have R := Lib.hid (fun W => rnatural M (by omega) W)
    have HR : Hid (itoa (M : Int) = decDigits M) := Lib.hid (by unfold itoa; rw [if_neg (by omega), Int.toNat_natCast])
    have hw : IntKind.u64.wrap (M : Int) = (M : Int) := by rw [IntKind.wrap_u64]; omega
    go_enter Tryd.func19, Tryd.ntmps19
    go_wp2_with fail
    refine (R.out _).mono ?_
    rintro e w1 ⟨rfl, rfl⟩
    go_wp2_with fail
    go_ret
    exact ⟨by rw [HR.out]; rfl, rfl⟩
  · obtain ⟨M, hM⟩ : ∃ M : Nat, n = -(M : Int) := ⟨n.natAbs, by omega⟩
    have hM1 : 1 ≤ M := by omega
    have hM2 : M < 18446744073709551616 := by omega
    have R := Lib.hid (fun W => rnatural M hM2 W)
    have hds : (str (decDigits M)).size ≤ 20 := by rw [str_size, decDigits_length]; exact nDigits_20 M hM2
    have HR : Hid (str (itoa n) = ⟨#[45]⟩ ++ str (decDigits M)) := Lib.hid (by
      have : itoa n = 45 :: decDigits M := by unfold itoa; rw [if_pos (by omega), show n.natAbs = M by omega]
      rw [this, show (⟨#[45]⟩ : ByteArray) = str [45] from rfl, str_app]; rfl)
    have hw : IntKind.u64.wrap n = 18446744073709551616 - (M : Int) := by rw [IntKind.wrap_u64]; omega
    have hx : bits .xor .u64 IntKind.u64.max (18446744073709551616 - (M : Int)) = (M : Int) - 1 := by
      rw [u64_not _ (by omega)]; omega
    have hy : IntKind.u64.wrap (M : Int) = (M : Int) := by rw [IntKind.wrap_u64]; omega
    obtain ⟨T, hT⟩ : ∃ T, str (decDigits M) = T := ⟨_, rfl⟩
    have R1 := R.out; have HR1 := HR.out
    rw [hT] at R1 HR1 hds
    have R2 := Lib.hid R1; have HR2 := Lib.hid HR1
    clear hM hT R HR R1 HR1
    go_enter Tryd.func19, Tryd.ntmps19
    go_wp2_with fail
    refine (R2.out _).mono ?_
    rintro e w1 ⟨rfl, rfl⟩
    go_wp2_with fail
    go_ret
    exact ⟨by rw [HR2.out]; rfl, rfl⟩
end Go.Proofs.YtlgplhekiemeoaaDoor
