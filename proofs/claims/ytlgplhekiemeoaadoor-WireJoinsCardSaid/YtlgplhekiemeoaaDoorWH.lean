/-
  The document's own Pack and Ints.
-/
import Derived.Test.YtlgplhekiemeoaaDoorWF
namespace Go.Proofs.YtlgplhekiemeoaaDoor
open Go Go.RowKit Go.Lib WM

theorem enc_join (a : List ByteArray) (x : ByteArray) : str (encL a) ++ str (decDigits x.size) ++ ⟨#[58]⟩ ++ x = str (encL (a ++ [x])) := by
  rw [encL_snoc, show (⟨#[58]⟩ : ByteArray) = str [58] from rfl]
  have h : str (encL a) ++ str (decDigits x.size) ++ str [58] ++ str (byt x) = str (encL a ++ (decDigits x.size ++ 58 :: byt x)) := by
    rw [str_app, str_app, str_app]
    simp
  rw [str_byt] at h
  exact h
theorem quiet_left {P : Program} {f : FuncId} {args : Array Value} {w : World} {n : Nat} {v : Value}
    (h : Calls P f args (w.drewN n) fun e w' => e = .returned v ∧ w.drewN n = w') : Calls P f args (w.drewN n) fun e w'' => e = .returned v ∧ ∃ m, w'' = w.drewN m :=
  h.mono fun _ _ ⟨he, hm⟩ => ⟨he, n, hm.symm⟩
theorem itoa_nat (n : Nat) : itoa (n : Int) = decDigits n := by unfold itoa; rw [if_neg (by omega), Int.toNat_natCast]
theorem enc_small (l : List ByteArray) (h : sizeL l ≤ 100000) (k : Nat) : (encL (l.take k)).length ≤ 2200000 := by
  have h1 : sizeL (l.take k) ≤ sizeL l := by
    conv => rhs; rw [← List.take_append_drop k l, sizeL_app]
    omega
  have h2 := enc_len (l.take k) (fun x hx => by
    have := sizeL_mem (l.take k) x hx
    omega)
  have h3 : (l.take k).length ≤ sizeL (l.take k) := by unfold sizeL; omega
  omega

set_option maxRecDepth 100000 in
set_option maxHeartbeats 4000000 in
theorem rpack (ao : Option Addr) (l : List ByteArray) (c : Nat) (hs : sizeL l ≤ 100000) (w : World) (h : TextsAt ao l w) :
    Calls Tryd.prog 12 #[.slice ao l.length c] w fun e w' => e = .returned (.string (str (encL l))) ∧ Below w.heap.size w w' := by
  have HS := Lib.hid (enc_small l hs)
  have HM := Lib.hid (sizeL_mem l)
  have HT := Lib.hid h
  obtain ⟨n, hn⟩ : ∃ n, l.length = n := ⟨_, rfl⟩
  have hn1 : n ≤ 100000 := by rw [← hn]; unfold sizeL at hs; omega
  have HN := Lib.hid hn
  rw [hn]
  clear h hn
  go_enter Tryd.func12, Tryd.ntmps12
  go_wp2_with fail
  go_loopw [3, 4] (fun x i wr => ∃ (k : Nat), k ≤ n ∧ i = .int .i64 k ∧ x = .string (str (encL (l.take k))) ∧ Below w.heap.size w wr) (fun _ i _ => n - (RowKit.intOf i).toNat)
  case atStart => exact ⟨0, by omega, rfl, rfl, bref w⟩
  case round =>
    obtain ⟨k, hk, rfl, rfl, hB⟩ := hrel
    have HB := Lib.hid hB
    by_cases hlt : k < n
    · obtain ⟨b, off, rfl, hb, c0⟩ := (HT.out.keep hB) k (by rw [HN.out]; exact hlt)
      have ht := take_g E0 l k (by rw [HN.out]; exact hlt)
      have hm := HM.out _ (getD_mem' E0 l k (by rw [HN.out]; exact hlt))
      obtain ⟨x, hx⟩ : ∃ x, l.getD k E0 = x := ⟨_, rfl⟩
      rw [hx] at c0 ht hm
      have hxs : x.size ≤ 100000 := by omega
      have hj := enc_join (l.take k) x
      rw [← ht] at hj
      have hs1 := HS.out k
      rw [← str_size] at hs1
      have R0 := fun W => rint (x.size : Int) (by unfold I64; omega) W
      rw [itoa_nat] at R0
      have hds : (str (decDigits x.size)).size ≤ 20 := by rw [str_size, decDigits_length]; exact nDigits_20 _ (by omega)
      obtain ⟨S, hS⟩ : ∃ S, str (encL (l.take k)) = S := ⟨_, rfl⟩
      obtain ⟨D, hD⟩ : ∃ D, str (decDigits x.size) = D := ⟨_, rfl⟩
      rw [hS] at hj hs1
      rw [hD] at hj R0 hds
      simp only [hS]
      have HJ := Lib.hid hj
      have HR := Lib.hid R0
      have hkz : (k : Int) < (n : Int) := by omega
      clear hS hD hx ht hm hj R0 hB
      go_wp2_with fail
      go_quiet ((go_at_call 19; with_reducible refine quiet_left (HR.out _)))
      go_wp2_with fail
      go_roundw
      case rel => exact ⟨k + 1, by omega, by go_num, by rw [← HJ.out], bdn HB.out _⟩
      case measure => simp [RowKit.intOf]; omega
    · have he : k = n := by omega
      subst he
      have HE : Hid (l.take k = l) := Lib.hid (List.take_of_length_le (by rw [HN.out]; exact Nat.le_refl _))
      go_wp2_with fail
      go_ret
      exact ⟨by rw [HE.out]; rfl, HB.out⟩

theorem ints_join (a : List Int) (n : Int) : str (encI a) ++ str (decDigits (decT n).size) ++ ⟨#[58]⟩ ++ decT n = str (encI (a ++ [n])) := by
  have h := enc_join (a.map decT) (decT n)
  unfold encI
  rw [h, List.map_append]
  rfl
theorem sizeL_dec (l : List Int) (h : ∀ n ∈ l, I64 n) : sizeL (l.map decT) ≤ 22 * l.length := by
  induction l with
  | nil => simp [sizeL]
  | cons n r ih =>
    have h1 := ih (fun m hm => h m (by simp [hm]))
    have h2 := decT_size n (h n (by simp))
    unfold sizeL at *
    simp only [List.map_cons, List.length_cons, List.sum_cons, List.length_map, List.map_map] at *
    omega

set_option maxRecDepth 100000 in
set_option maxHeartbeats 4000000 in
theorem rints (ao : Option Addr) (l : List Int) (c : Nat) (hl : l.length ≤ 4000) (hs : ∀ n ∈ l, I64 n) (w : World) (h : IntsAt ao l w) :
    Calls Tryd.prog 23 #[.slice ao l.length c] w fun e w' => e = .returned (.string (str (encI l))) ∧ Below w.heap.size w w' := by
  have h0 := sizeL_dec l hs
  have HS := Lib.hid (fun k => enc_small (l.map decT) (by omega) k)
  have HM := Lib.hid hs
  have HT := Lib.hid h
  obtain ⟨n, hn⟩ : ∃ n, l.length = n := ⟨_, rfl⟩
  rw [hn] at hl
  have HN := Lib.hid hn
  rw [hn]
  clear h hn h0 hs
  go_enter Tryd.func23, Tryd.ntmps23
  go_wp2_with fail
  go_loopw [3, 4] (fun x i wr => ∃ (k : Nat), k ≤ n ∧ i = .int .i64 k ∧ x = .string (str (encI (l.take k))) ∧ Below w.heap.size w wr) (fun _ i _ => n - (RowKit.intOf i).toNat)
  case atStart => exact ⟨0, by omega, rfl, rfl, bref w⟩
  case round =>
    obtain ⟨k, hk, rfl, rfl, hB⟩ := hrel
    have HB := Lib.hid hB
    by_cases hlt : k < n
    · obtain ⟨b, off, rfl, hb, c0⟩ := (HT.out.keep hB) k (by rw [HN.out]; exact hlt)
      have ht := take_g 0 l k (by rw [HN.out]; exact hlt)
      have hm := HM.out _ (getD_mem' 0 l k (by rw [HN.out]; exact hlt))
      obtain ⟨v, hv⟩ : ∃ v, l.getD k 0 = v := ⟨_, rfl⟩
      rw [hv] at c0 ht hm
      have hxs : (decT v).size ≤ 21 := decT_size v hm
      have hj := ints_join (l.take k) v
      rw [← ht] at hj
      have hs1 := HS.out k
      rw [← List.map_take] at hs1
      have hs2 : (str (encI (l.take k))).size ≤ 2200000 := by rw [str_size]; exact hs1
      have R1 := fun W => rint v hm W
      have e1 : str (itoa v) = decT v := rfl
      rw [e1] at R1
      have R0 := fun W => rint ((decT v).size : Int) (by unfold I64; omega) W
      rw [itoa_nat] at R0
      have hds : (str (decDigits (decT v).size)).size ≤ 20 := by rw [str_size, decDigits_length]; exact nDigits_20 _ (by omega)
      obtain ⟨S, hS⟩ : ∃ S, str (encI (l.take k)) = S := ⟨_, rfl⟩
      obtain ⟨X, hX⟩ : ∃ X, decT v = X := ⟨_, rfl⟩
      rw [hX] at hj R0 R1 hds hxs
      obtain ⟨D, hD⟩ : ∃ D, str (decDigits X.size) = D := ⟨_, rfl⟩
      rw [hS] at hj hs2
      rw [hD] at hj R0 hds
      simp only [hS]
      have HJ := Lib.hid hj
      have HR := Lib.hid R0
      have HR1 := Lib.hid R1
      have hkz : (k : Int) < (n : Int) := by omega
      clear hS hD hv hX ht hm hj R0 R1 hB hs1 e1
      go_wp2_with fail
      with_reducible refine (HR1.out _).mono ?_
      rintro e w1 ⟨rfl, rfl⟩
      go_wp2_with fail
      with_reducible refine (HR.out _).mono ?_
      rintro e w1 ⟨rfl, rfl⟩
      go_wp2_with fail
      go_roundw
      case rel => exact ⟨k + 1, by omega, by go_num, by rw [← HJ.out], HB.out⟩
      case measure => simp [RowKit.intOf]; omega
    · have he : k = n := by omega
      subst he
      have HE : Hid (l.take k = l) := Lib.hid (List.take_of_length_le (by rw [HN.out]; exact Nat.le_refl _))
      go_wp2_with fail
      go_ret
      exact ⟨by rw [HE.out]; rfl, HB.out⟩
end Go.Proofs.YtlgplhekiemeoaaDoor
