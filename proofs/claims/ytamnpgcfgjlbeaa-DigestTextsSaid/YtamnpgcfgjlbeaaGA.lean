/-
  Digests: contracts of package digest's Hash, Chain and Pair, and of the document's own.
-/
import Derived.Test.YtamnpgcfgjlbeaaProg
import Derived.Test.YtamnpgcfgjlbeaaGM
import Derived.Test.YtamnpgcfgjlbeaaShelf
import Derived.WalkKit
import Derived.WalkMore
import Derived.Outline
import Derived.Below
import Derived.Lib.Hide
import Derived.Lib.Walk
import Derived.Laws.Externs
import Derived.Laws.Slices
import Derived.Laws.Strings3
import Derived.Laws.BitsAllLaws
import Derived.Laws.Shifts
import Derived.Laws.Bits64b
import Derived.Deep.QuietTactic
import Derived.BigQuiet
import Derived.BigCall
import Derived.BigGuard
import Derived.WalkSpells
import Derived.IntWalk
import Derived.LoopN
import Derived.Deep.LoopGhost
import Derived.OwnWalk
import Derived.ArgAppend
import Derived.Lib.SlFresh
import Derived.Lib.AppendStr
import Derived.Laws.IdiomStrings
import Derived.KernelRfl
namespace Go.Proofs.Ytamnpgcfgjlbeaa
open Go Go.RowKit Go.Lib GM

theorem bal {w w' : World} (h : Below w.heap.size w w') (o : Obj) : Below w.heap.size w (w'.alloc o) := h.alloc h.size _
theorem btr {w w' w'' : World} (h : Below w.heap.size w w') (k : Below w'.heap.size w' w'') : Below w.heap.size w w'' := h.trans (k.mono h.size)
theorem bref (w : World) : Below w.heap.size w w := Below.refl _ _
theorem bdr {w w' : World} (h : Below w.heap.size w w') : Below w.heap.size w w'.drew := h.drew
theorem bdn {w w' : World} (h : Below w.heap.size w w') (n : Nat) : Below w.heap.size w (w'.drewN n) := ⟨h.os, h.tape, h.output, h.size, h.block⟩

theorem wrap_byte (b : UInt8) : IntKind.u64.wrap (b.toNat : Int) = (b.toNat : Int) := by
  have := b.toNat_lt
  rw [IntKind.wrap_u64]; omega
theorem stp_int (h : Nat) (b : UInt8) (hh : h < 18446744073709551616) : IntKind.u64.wrap (bits .xor .u64 (h : Int) (b.toNat : Int) * 1099511628211) = ((stp h b : Nat) : Int) := by
  have hb := b.toNat_lt
  rw [u64_xor_nat h b.toNat hh (by omega), IntKind.wrap_u64]
  unfold stp
  omega
theorem mbyte (h : Nat) (b : UInt8) (hh : h < 18446744073709551616) (w : World) :
    Calls Try.prog 36 #[.int .u64 h, .int .u8 (b.toNat : Int)] w fun e w' => e = .returned (.int .u64 ((stp h b : Nat) : Int)) ∧ w = w' := by
  have h1 := wrap_byte b
  have h2 := stp_int h b hh
  obtain ⟨S, hS⟩ : ∃ S, stp h b = S := ⟨_, rfl⟩
  rw [hS] at h2 ⊢
  go_enter Try.func36, Try.ntmps36
  go_wp2_with fail
  go_ret
  exact ⟨rfl, rfl⟩

theorem by8_int (h k : Nat) : IntKind.u8.wrap ((h : Int) / 2 ^ (8 * k)) = ((by8 h k).toNat : Int) := by
  have e : ((h : Int) / 2 ^ (8 * k)) = ((h / 256 ^ k : Nat) : Int) := by
    have : (2 : Nat) ^ (8 * k) = 256 ^ k := by rw [Nat.pow_mul]
    have h2 : ((2 : Int) ^ (8 * k)) = ((2 ^ (8 * k) : Nat) : Int) := by simp
    rw [h2, this]; simp
  rw [e, IntKind.wrap_u8, by8_nat]
  omega
theorem mbyteOf (h k : Nat) (hk : k < 8) (w : World) :
    Calls Try.prog 34 #[.int .u64 h, .int .i64 k] w fun e w' => e = .returned (.int .u8 ((by8 h k).toNat : Int)) ∧ w = w' := by
  have h1 := by8_int h k
  have h2 : ((8 : Int) * (k : Int)).toNat = 8 * k := by omega
  have h3 : min (8 * k) 64 = 8 * k := by omega
  have h4 : (0 : Int) ≤ 8 * (k : Int) := by omega
  have h5 : (8 * (k : Int)) ≤ 64 := by omega
  obtain ⟨S, hS⟩ : ∃ S, ((by8 h k).toNat : Int) = S := ⟨_, rfl⟩
  rw [hS] at h1 ⊢
  go_enter Try.func34, Try.ntmps34
  go_wp2_with fail
  go_ret
  exact ⟨rfl, rfl⟩

set_option maxRecDepth 100000 in
set_option maxHeartbeats 1000000 in
theorem mextend (h : Nat) (s : ByteArray) (hh : h < 18446744073709551616) (hs : s.size ≤ 9223372036854775806) (w : World) :
    Calls Try.prog 29 #[.int .u64 h, .string s] w fun e w' => e = .returned (.int .u64 ((ext h (byt s) : Nat) : Int)) ∧ w = w' := by
  obtain ⟨R, hR⟩ : ∃ R, ext h (byt s) = R := ⟨_, rfl⟩
  rw [hR]
  have HR := Lib.hid hR
  have HH := Lib.hid hh
  have M := Lib.hid (fun h b hh W => mbyte h b hh W)
  clear hR hh
  go_enter Try.func29, Try.ntmps29
  go_wp2_with fail
  go_loop [0, 8] (fun x i => ∃ (g k : Nat), k ≤ s.size ∧ x = .int .u64 g ∧ i = .int .i64 k ∧ g < 18446744073709551616 ∧ ext g ((byt s).drop k) = R) (fun _ i => s.size - (RowKit.intOf i).toNat)
  case atStart => exact ⟨h, 0, by omega, rfl, rfl, HH.out, by simpa using HR.out⟩
  case round =>
    obtain ⟨g, k, hk, rfl, rfl, hg, he⟩ := hrel
    have HE := Lib.hid he
    have HG := Lib.hid hg
    clear he hg
    by_cases hlt : k < s.size
    · have hkz : (k : Int) < (s.size : Int) := by omega
      have MB := Lib.hid (M.out g s[k] HG.out)
      have HN : Hid (ext (stp g s[k]) ((byt s).drop (k + 1)) = R) := Lib.hid (by rw [← HE.out, drop_cons' s k hlt]; rfl)
      have HL := Lib.hid (stp_lt g s[k])
      obtain ⟨S, hS⟩ : ∃ S, stp g s[k] = S := ⟨_, rfl⟩
      have MB1 := MB.out
      have HN1 := HN.out
      have HL1 := HL.out
      rw [hS] at MB1 HN1 HL1
      have MB2 := Lib.hid MB1
      have HN2 := Lib.hid HN1
      have HL2 := Lib.hid HL1
      clear MB HN HL MB1 HN1 HL1 hS
      go_wp2_with fail
      refine (MB2.out _).mono ?_
      rintro e w1 ⟨rfl, rfl⟩
      go_wp2_with fail
      go_round
      case rel => exact ⟨S, k + 1, by omega, rfl, by go_num, HL2.out, HN2.out⟩
      case measure => simp [RowKit.intOf]; omega
    · have he : k = s.size := by omega
      subst he
      have HE2 : Hid (g = R) := Lib.hid (by rw [← HE.out, drop_nil']; rfl)
      go_wp2_with fail
      go_ret
      exact ⟨by rw [HE2.out]; rfl, rfl⟩

set_option maxRecDepth 100000 in
set_option maxHeartbeats 1000000 in
theorem mextendDigest (h n : Nat) (hh : h < 18446744073709551616) (w : World) :
    Calls Try.prog 30 #[.int .u64 h, .int .u64 n] w fun e w' => e = .returned (.int .u64 ((ext h (eig n) : Nat) : Int)) ∧ w = w' := by
  obtain ⟨R, hR⟩ : ∃ R, ext h (eig n) = R := ⟨_, rfl⟩
  rw [hR]
  have HR := Lib.hid hR
  have HH := Lib.hid hh
  have M := Lib.hid (fun h b hh W => mbyte h b hh W)
  have B := Lib.hid (fun k hk W => mbyteOf n k hk W)
  clear hR hh
  go_enter Try.func30, Try.ntmps30
  go_wp2_with fail
  go_loop [0, 6] (fun x i => ∃ (g k : Nat), k ≤ 8 ∧ x = .int .u64 g ∧ i = .int .i64 k ∧ g < 18446744073709551616 ∧ ext g (low (8 - k) (n / 256 ^ k)) = R) (fun _ i => 8 - (RowKit.intOf i).toNat)
  case atStart => exact ⟨h, 0, by omega, rfl, rfl, HH.out, by rw [← HR.out]; simp [eig]⟩
  case round =>
    obtain ⟨g, k, hk, rfl, rfl, hg, he⟩ := hrel
    have HE := Lib.hid he
    have HG := Lib.hid hg
    clear he hg
    by_cases hlt : k < 8
    · have hkz : (k : Int) < 8 := by omega
      have BB1 := B.out k hlt
      obtain ⟨c, hc⟩ : ∃ c, by8 n k = c := ⟨_, rfl⟩
      have MB1 := M.out g c HG.out
      have HN1 : ext (stp g c) (low (8 - (k + 1)) (n / 256 ^ (k + 1))) = R := by
        rw [← HE.out, show 8 - k = (8 - (k + 1)) + 1 by omega, low_by8, hc]; rfl
      have HL1 := stp_lt g c
      rw [hc] at BB1
      obtain ⟨S, hS⟩ : ∃ S, stp g c = S := ⟨_, rfl⟩
      rw [hS] at MB1 HN1 HL1
      have BB2 := Lib.hid BB1
      have MB2 := Lib.hid MB1
      have HN2 := Lib.hid HN1
      have HL2 := Lib.hid HL1
      clear BB1 MB1 HN1 HL1 hS hc
      go_wp2_with fail
      refine (BB2.out _).mono ?_
      rintro e w1 ⟨rfl, rfl⟩
      go_wp2_with fail
      refine (MB2.out _).mono ?_
      rintro e w1 ⟨rfl, rfl⟩
      go_wp2_with fail
      go_round
      case rel => exact ⟨S, k + 1, by omega, rfl, by go_num, HL2.out, HN2.out⟩
      case measure => simp [RowKit.intOf]; omega
    · have he : k = 8 := by omega
      subst he
      have HE2 : Hid (g = R) := Lib.hid (by rw [← HE.out]; rfl)
      go_wp2_with fail
      go_ret
      exact ⟨by rw [HE2.out]; rfl, rfl⟩

def hashN (l : List UInt8) : Nat := ext sta l
def chainN (p : Nat) (l : List UInt8) : Nat := ext (ext sta (eig p)) l
theorem hashN_lt (l : List UInt8) : hashN l < 18446744073709551616 := ext_lt l _ sta_lt
theorem chainN_lt (p : Nat) (l : List UInt8) : chainN p l < 18446744073709551616 := ext_lt l _ (ext_lt _ _ sta_lt)
theorem mhash (s : ByteArray) (hs : s.size ≤ 9223372036854775806) (w : World) :
    Calls Try.prog 10 #[.string s] w fun e w' => e = .returned (.int .u64 ((hashN (byt s) : Nat) : Int)) ∧ w = w' := by
  have M : Hid (∀ W, Calls Try.prog 29 #[.int .u64 14695981039346656037, .string s] W fun e w' => e = .returned (.int .u64 ((hashN (byt s) : Nat) : Int)) ∧ W = w') := Lib.hid (fun W => mextend sta s sta_lt hs W)
  clear hs
  go_enter Try.func10, Try.ntmps10
  go_wp2_with fail
  refine (M.out _).mono ?_
  rintro e w1 ⟨rfl, rfl⟩
  go_wp2_with fail
  go_ret
  exact ⟨rfl, rfl⟩
theorem mchain (p : Nat) (s : ByteArray) (hs : s.size ≤ 9223372036854775806) (w : World) :
    Calls Try.prog 12 #[.int .u64 p, .string s] w fun e w' => e = .returned (.int .u64 ((chainN p (byt s) : Nat) : Int)) ∧ w = w' := by
  have M1 : ∀ W, Calls Try.prog 30 #[.int .u64 14695981039346656037, .int .u64 p] W fun e w' => e = .returned (.int .u64 ((ext sta (eig p) : Nat) : Int)) ∧ W = w' := fun W => mextendDigest sta p sta_lt W
  have M2 : ∀ W, Calls Try.prog 29 #[.int .u64 ((ext sta (eig p) : Nat) : Int), .string s] W fun e w' => e = .returned (.int .u64 ((chainN p (byt s) : Nat) : Int)) ∧ W = w' := fun W => mextend (ext sta (eig p)) s (ext_lt _ _ sta_lt) hs W
  obtain ⟨g, hg⟩ : ∃ g, ext sta (eig p) = g := ⟨_, rfl⟩
  rw [hg] at M1 M2
  have M3 := Lib.hid M1
  have M4 := Lib.hid M2
  clear hs M1 M2 hg
  go_enter Try.func12, Try.ntmps12
  go_wp2_with fail
  refine (M3.out _).mono ?_
  rintro e w1 ⟨rfl, rfl⟩
  go_wp2_with fail
  refine (M4.out _).mono ?_
  rintro e w1 ⟨rfl, rfl⟩
  go_wp2_with fail
  go_ret
  exact ⟨rfl, rfl⟩
theorem mpair (p q : Nat) (w : World) :
    Calls Try.prog 14 #[.int .u64 p, .int .u64 q] w fun e w' => e = .returned (.int .u64 ((chainN p (eig q) : Nat) : Int)) ∧ w = w' := by
  have M1 : ∀ W, Calls Try.prog 30 #[.int .u64 14695981039346656037, .int .u64 p] W fun e w' => e = .returned (.int .u64 ((ext sta (eig p) : Nat) : Int)) ∧ W = w' := fun W => mextendDigest sta p sta_lt W
  have M2 : ∀ W, Calls Try.prog 30 #[.int .u64 ((ext sta (eig p) : Nat) : Int), .int .u64 q] W fun e w' => e = .returned (.int .u64 ((chainN p (eig q) : Nat) : Int)) ∧ W = w' := fun W => mextendDigest (ext sta (eig p)) q (ext_lt _ _ sta_lt) W
  obtain ⟨g, hg⟩ : ∃ g, ext sta (eig p) = g := ⟨_, rfl⟩
  rw [hg] at M1 M2
  have M3 := Lib.hid M1
  have M4 := Lib.hid M2
  clear M1 M2 hg
  go_enter Try.func14, Try.ntmps14
  go_wp2_with fail
  refine (M3.out _).mono ?_
  rintro e w1 ⟨rfl, rfl⟩
  go_wp2_with fail
  refine (M4.out _).mono ?_
  rintro e w1 ⟨rfl, rfl⟩
  go_wp2_with fail
  go_ret
  exact ⟨rfl, rfl⟩
end Go.Proofs.Ytamnpgcfgjlbeaa
