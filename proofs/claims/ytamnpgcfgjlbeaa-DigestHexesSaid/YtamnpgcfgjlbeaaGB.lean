/-
  Digests: contracts of the document's own Extend, eight, Hash, Chain and Pair.
-/
import Derived.Test.YtamnpgcfgjlbeaaGK
namespace Go.Proofs.Ytamnpgcfgjlbeaa
open Go Go.RowKit Go.Lib GM

set_option maxRecDepth 100000 in
set_option maxHeartbeats 1000000 in
theorem rextend (h : Nat) (s : ByteArray) (hh : h < 18446744073709551616) (hs : s.size ≤ 9223372036854775806) (w : World) :
    Calls Try.prog 16 #[.int .u64 h, .string s] w fun e w' => e = .returned (.int .u64 ((ext h (byt s) : Nat) : Int)) ∧ w = w' := by
  obtain ⟨R, hR⟩ : ∃ R, ext h (byt s) = R := ⟨_, rfl⟩
  rw [hR]
  have HR := Lib.hid hR
  have HH := Lib.hid hh
  clear hR hh
  go_enter Try.func16, Try.ntmps16
  go_wp2_with fail
  go_loop [0, 5] (fun x i => ∃ (g k : Nat), k ≤ s.size ∧ x = .int .u64 g ∧ i = .int .i64 k ∧ g < 18446744073709551616 ∧ ext g ((byt s).drop k) = R) (fun _ i => s.size - (RowKit.intOf i).toNat)
  case atStart => exact ⟨h, 0, by omega, rfl, rfl, HH.out, by simpa using HR.out⟩
  case round =>
    obtain ⟨g, k, hk, rfl, rfl, hg, he⟩ := hrel
    have HE := Lib.hid he
    have HG := Lib.hid hg
    clear he hg
    by_cases hlt : k < s.size
    · have hkz : (k : Int) < (s.size : Int) := by omega
      have h1 := wrap_byte s[k]
      have h2 := stp_int g s[k] HG.out
      have HN1 : ext (stp g s[k]) ((byt s).drop (k + 1)) = R := by rw [← HE.out, drop_cons' s k hlt]; rfl
      have HL1 := stp_lt g s[k]
      obtain ⟨S, hS⟩ : ∃ S, stp g s[k] = S := ⟨_, rfl⟩
      rw [hS] at h2 HN1 HL1
      have HN2 := Lib.hid HN1
      have HL2 := Lib.hid HL1
      clear HN1 HL1 hS
      go_wp2_with fail
      go_round
      case rel => exact ⟨S, k + 1, by omega, rfl, by go_num, HL2.out, HN2.out⟩
      case measure => simp [RowKit.intOf]; omega
    · have he : k = s.size := by omega
      subst he
      have HE2 : Hid (g = R) := Lib.hid (by rw [← HE.out, drop_nil']; rfl)
      go_wp2_with fail
      go_ret
      exact ⟨by rw [HE2.out]; rfl, rfl⟩

theorem own_empty (w : World) : (w.alloc (.cells #[] 5)).ownsRow w.heap.size 5 1 (.slice (some ⟨w.heap.size, 0, none⟩) 0 0) 0 (byteCells []) := by
  exact World.ownsRow_made w #[] 0 (Nat.le_refl _) (Nat.zero_le _) rfl

set_option maxRecDepth 100000 in
set_option maxHeartbeats 4000000 in
theorem reight (h : Nat) (hh : h < 18446744073709551616) (w : World) :
    Calls Try.prog 31 #[.int .u64 h] w fun e w' => e = .returned (.string (str (eig h))) ∧ Below w.heap.size w w' := by
  obtain ⟨i0, hi, hz0, hz1, hz2⟩ := info_parts infoB
  obtain ⟨R, hR⟩ : ∃ R, eig h = R := ⟨_, rfl⟩
  rw [hR]
  have HR := Lib.hid hR
  have HH := Lib.hid hh
  clear hR hh
  go_enter Try.func31, Try.ntmps31
  go_wp2_with fail
  go_loopw [0, 3, 4] (fun x v i wr => ∃ (g k : Nat) (o : List UInt8), k ≤ 8 ∧ x = .int .u64 g ∧ i = .int .i64 k ∧ g < 18446744073709551616 ∧ o ++ low (8 - k) g = R ∧ wr.ownsRow w.heap.size 5 1 v k (byteCells o) ∧ Below w.heap.size w wr) (fun _ _ i _ => 8 - (RowKit.intOf i).toNat)
  case atStart => exact ⟨h, 0, [], by omega, rfl, rfl, HH.out, HR.out, own_empty w, bal (bref w) _⟩
  case round =>
    obtain ⟨g, k, o, hk, rfl, rfl, hg, he, hO, hB⟩ := hrel
    have HB := Lib.hid hB
    have HO := Lib.hid hO
    have HG := Lib.hid hg
    have HE := Lib.hid he
    have hsw := hB.size
    clear hB hO hg he
    by_cases hlt : k < 8
    · have hkz : (k : Int) < 8 := by omega
      have HN : Hid ((o ++ [UInt8.ofNat (g % 256)]) ++ low (8 - (k + 1)) (g / 256) = R) := Lib.hid (by
        rw [← HE.out, show 8 - k = (8 - (k + 1)) + 1 by omega, List.append_assoc]; rfl)
      have HG2 := Lib.hid (show g / 256 < 18446744073709551616 by have := HG.out; omega)
      have e1 : IntKind.u8.wrap ((g : Int) % 256) = ((UInt8.ofNat (g % 256)).toNat : Int) := by
        rw [IntKind.wrap_u8, UInt8.toNat_ofNat']; omega
      have e2 : (g : Int) / 256 = ((g / 256 : Nat) : Int) := by omega
      obtain ⟨c, hc⟩ : ∃ c, UInt8.ofNat (g % 256) = c := ⟨_, rfl⟩
      obtain ⟨q, hq⟩ : ∃ q, g / 256 = q := ⟨_, rfl⟩
      rw [hc] at e1
      rw [hq] at e2
      have e3 : IntKind.u64.wrap (q : Int) = (q : Int) := by rw [IntKind.wrap_u64]; have := HG.out; omega
      have HN1 := HN.out
      have HG21 := HG2.out
      rw [hc, hq] at HN1
      rw [hq] at HG21
      have HN3 := Lib.hid HN1
      have HG3 := Lib.hid HG21
      clear HN HG2 HN1 HG21 hc hq
      go_wp2_with (at_builtin; refine wpList_append_one (.int .u8 (c.toNat : Int)) rfl rfl (.tmp 10) (.tmp 14) 38 rfl w.heap.size i0 (.int .u8 0) 1 Try.underlying38 hi hz0 hz1 hz2 rfl _ _ _ rfl HO.out rfl rfl (by unfold maxLen; omega) (by omega) hsw ?_; intro v3 w3 o3 q3; have HO3 := Lib.hid o3; have HB3 := Lib.hid (HB.out.trans q3); clear o3 q3)
      have o5 : w3.ownsRow w.heap.size 5 1 v3 (k + 1) (byteCells (o ++ [c])) := by rw [byteCells_app]; exact HO3.out
      have HO5 := Lib.hid o5
      clear o5 HO3
      go_wp2_with fail
      go_roundw
      case rel => exact ⟨q, k + 1, o ++ [c], by omega, rfl, by go_num, HG3.out, HN3.out, HO5.out, HB3.out⟩
      case measure => simp [RowKit.intOf]; omega
    · have he : k = 8 := by omega
      subst he
      have HE2 : Hid (o = R) := Lib.hid (by have := HE.out; simpa [low] using this)
      have hcv := own_bytes HO.out
      go_wp2_with fail
      go_ret
      exact ⟨by rw [HE2.out]; rfl, HB.out⟩

theorem rhash (s : ByteArray) (hs : s.size ≤ 9223372036854775806) (w : World) :
    Calls Try.prog 11 #[.string s] w fun e w' => e = .returned (.int .u64 ((hashN (byt s) : Nat) : Int)) ∧ w = w' := by
  have M : Hid (∀ W, Calls Try.prog 16 #[.int .u64 14695981039346656037, .string s] W fun e w' => e = .returned (.int .u64 ((hashN (byt s) : Nat) : Int)) ∧ W = w') := Lib.hid (fun W => rextend sta s sta_lt hs W)
  clear hs
  go_enter Try.func11, Try.ntmps11
  go_wp2_with fail
  refine (M.out _).mono ?_
  rintro e w1 ⟨rfl, rfl⟩
  go_wp2_with fail
  go_ret
  exact ⟨rfl, rfl⟩
theorem rchain (p : Nat) (hp : p < 18446744073709551616) (s : ByteArray) (hs : s.size ≤ 9223372036854775806) (w : World) :
    Calls Try.prog 13 #[.int .u64 p, .string s] w fun e w' => e = .returned (.int .u64 ((chainN p (byt s) : Nat) : Int)) ∧ Below w.heap.size w w' := by
  have M1 := fun W => reight p hp W
  have M2 : ∀ W, Calls Try.prog 11 #[.string (str (eig p))] W fun e w' => e = .returned (.int .u64 ((ext sta (eig p) : Nat) : Int)) ∧ W = w' := fun W => by
    have := rhash (str (eig p)) (by rw [str_size]; unfold eig; rw [low_length]; decide) W
    rw [byt_str] at this
    exact this
  have M5 : ∀ W, Calls Try.prog 16 #[.int .u64 ((ext sta (eig p) : Nat) : Int), .string s] W fun e w' => e = .returned (.int .u64 ((chainN p (byt s) : Nat) : Int)) ∧ W = w' := fun W => rextend (ext sta (eig p)) s (ext_lt _ _ sta_lt) hs W
  obtain ⟨g, hg⟩ : ∃ g, ext sta (eig p) = g := ⟨_, rfl⟩
  obtain ⟨S, hS⟩ : ∃ S, str (eig p) = S := ⟨_, rfl⟩
  rw [hg] at M2 M5
  rw [hS] at M1 M2
  have M3 := Lib.hid M1
  have M4 := Lib.hid M2
  have M6 := Lib.hid M5
  clear hs hp M1 M2 M5 hg hS
  go_enter Try.func13, Try.ntmps13
  go_wp2_with fail
  refine (M3.out _).mono ?_
  rintro e w1 ⟨rfl, q1⟩
  have HQ := Lib.hid q1
  clear q1
  go_wp2_with fail
  refine (M4.out _).mono ?_
  rintro e w2 ⟨rfl, rfl⟩
  go_wp2_with fail
  refine (M6.out _).mono ?_
  rintro e w2 ⟨rfl, rfl⟩
  go_wp2_with fail
  go_ret
  exact ⟨rfl, HQ.out⟩
theorem rpair (p q : Nat) (hp : p < 18446744073709551616) (hq : q < 18446744073709551616) (w : World) :
    Calls Try.prog 15 #[.int .u64 p, .int .u64 q] w fun e w' => e = .returned (.int .u64 ((chainN p (eig q) : Nat) : Int)) ∧ Below w.heap.size w w' := by
  have M1 := fun W => reight q hq W
  have M2 : ∀ W, Calls Try.prog 13 #[.int .u64 p, .string (str (eig q))] W fun e w' => e = .returned (.int .u64 ((chainN p (eig q) : Nat) : Int)) ∧ Below W.heap.size W w' := fun W => by
    have := rchain p hp (str (eig q)) (by rw [str_size]; unfold eig; rw [low_length]; decide) W
    rw [byt_str] at this
    exact this
  obtain ⟨S, hS⟩ : ∃ S, str (eig q) = S := ⟨_, rfl⟩
  rw [hS] at M1 M2
  have M3 := Lib.hid M1
  have M4 := Lib.hid M2
  clear hp hq M1 M2 hS
  go_enter Try.func15, Try.ntmps15
  go_wp2_with fail
  refine (M3.out _).mono ?_
  rintro e w1 ⟨rfl, q1⟩
  have HQ := Lib.hid q1
  clear q1
  go_wp2_with fail
  refine (M4.out _).mono ?_
  rintro e w2 ⟨rfl, q2⟩
  have HQ2 := Lib.hid (btr HQ.out q2)
  clear q2
  go_wp2_with fail
  go_ret
  exact ⟨rfl, HQ2.out⟩
end Go.Proofs.Ytamnpgcfgjlbeaa
