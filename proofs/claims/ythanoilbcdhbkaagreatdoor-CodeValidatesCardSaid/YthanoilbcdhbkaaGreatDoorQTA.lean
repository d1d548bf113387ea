/-
  Tokens: contracts of package token's kind, span, digits, numeral and Word.
-/
import Derived.Test.YthanoilbcdhbkaaGreatDoorQA
import Derived.Test.YthanoilbcdhbkaaGreatDoorQShelf
namespace Go.Proofs.YthanoilbcdhbkaaGreatDoor
open Go Go.RowKit Go.Lib WM TM

def kdn (n : Nat) : Int := if 97 ≤ n ∧ n ≤ 122 then 4 else if 48 ≤ n ∧ n ≤ 57 then 5 else if n = 32 ∨ n = 9 then 1 else if n = 10 then 2 else if n = 35 then 3 else if n = 95 then 6 else if n = 46 ∨ n = 37 then 7 else 0
theorem kd_kdn (c : UInt8) : kd c = kdn c.toNat := by
  have := u8_all (fun c => kd c == kdn c.toNat) (by decide +kernel) c
  exact eq_of_beq this
set_option maxRecDepth 100000 in
set_option maxHeartbeats 1000000 in
theorem mkind_n (m : Nat) (w : World) :
    Calls Tryz.prog 105 #[.int .i32 (m : Int)] w fun e w' => e = .returned (.int .i64 (kdn m)) ∧ w = w' := by
  by_cases h1 : 97 ≤ m ∧ m ≤ 122
  · have e : kdn m = 4 := by unfold kdn; rw [if_pos h1]
    have a1 : 97 ≤ (m : Int) := by omega
    have a2 : (m : Int) ≤ 122 := by omega
    rw [e]
    clear e h1
    go_enter Tryz.func105, Tryz.ntmps105
    go_wp2_with fail
    go_ret
    exact ⟨rfl, rfl⟩
  by_cases h2 : 48 ≤ m ∧ m ≤ 57
  · have e : kdn m = 5 := by unfold kdn; rw [if_neg h1, if_pos h2]
    have a1 : ¬ 97 ≤ (m : Int) := by omega
    have a2 : 48 ≤ (m : Int) := by omega
    have a3 : (m : Int) ≤ 57 := by omega
    rw [e]
    clear e h1 h2
    go_enter Tryz.func105, Tryz.ntmps105
    go_wp2_with fail
    go_ret
    exact ⟨rfl, rfl⟩
  by_cases k32 : m = 32
  · subst k32
    have e : kdn 32 = 1 := by decide
    rw [e]
    go_enter Tryz.func105, Tryz.ntmps105
    go_wp2_with fail
    go_ret
    exact ⟨rfl, rfl⟩
  by_cases k9 : m = 9
  · subst k9
    have e : kdn 9 = 1 := by decide
    rw [e]
    go_enter Tryz.func105, Tryz.ntmps105
    go_wp2_with fail
    go_ret
    exact ⟨rfl, rfl⟩
  by_cases k10 : m = 10
  · subst k10
    have e : kdn 10 = 2 := by decide
    rw [e]
    go_enter Tryz.func105, Tryz.ntmps105
    go_wp2_with fail
    go_ret
    exact ⟨rfl, rfl⟩
  by_cases k35 : m = 35
  · subst k35
    have e : kdn 35 = 3 := by decide
    rw [e]
    go_enter Tryz.func105, Tryz.ntmps105
    go_wp2_with fail
    go_ret
    exact ⟨rfl, rfl⟩
  by_cases k95 : m = 95
  · subst k95
    have e : kdn 95 = 6 := by decide
    rw [e]
    go_enter Tryz.func105, Tryz.ntmps105
    go_wp2_with fail
    go_ret
    exact ⟨rfl, rfl⟩
  by_cases k46 : m = 46
  · subst k46
    have e : kdn 46 = 7 := by decide
    rw [e]
    go_enter Tryz.func105, Tryz.ntmps105
    go_wp2_with fail
    go_ret
    exact ⟨rfl, rfl⟩
  by_cases k37 : m = 37
  · subst k37
    have e : kdn 37 = 7 := by decide
    rw [e]
    go_enter Tryz.func105, Tryz.ntmps105
    go_wp2_with fail
    go_ret
    exact ⟨rfl, rfl⟩
  have e : kdn m = 0 := by
    unfold kdn
    rw [if_neg h1, if_neg h2, if_neg (by omega), if_neg (by omega), if_neg (by omega), if_neg (by omega), if_neg (by omega)]
  rw [e]
  have b1 : ¬ (m : Int) = 32 := by omega
  have b2 : ¬ (m : Int) = 9 := by omega
  have b3 : ¬ (m : Int) = 10 := by omega
  have b4 : ¬ (m : Int) = 35 := by omega
  have b5 : ¬ (m : Int) = 95 := by omega
  have b6 : ¬ (m : Int) = 46 := by omega
  have b7 : ¬ (m : Int) = 37 := by omega
  by_cases c1 : m < 48
  · have a1 : ¬ 97 ≤ (m : Int) := by omega
    have a2 : ¬ 48 ≤ (m : Int) := by omega
    clear e h1 h2 k32 k9 k10 k35 k95 k46 k37 c1
    go_enter Tryz.func105, Tryz.ntmps105
    go_wp2_with fail
    go_ret
    exact ⟨rfl, rfl⟩
  by_cases c2 : m < 97
  · have a1 : ¬ 97 ≤ (m : Int) := by omega
    have a2 : 48 ≤ (m : Int) := by omega
    have a3 : ¬ (m : Int) ≤ 57 := by omega
    clear e h1 h2 k32 k9 k10 k35 k95 k46 k37 c1 c2
    go_enter Tryz.func105, Tryz.ntmps105
    go_wp2_with fail
    go_ret
    exact ⟨rfl, rfl⟩
  have a1 : 97 ≤ (m : Int) := by omega
  have a2 : ¬ (m : Int) ≤ 122 := by omega
  have a3 : 48 ≤ (m : Int) := by omega
  have a4 : ¬ (m : Int) ≤ 57 := by omega
  clear e h1 h2 k32 k9 k10 k35 k95 k46 k37 c1 c2
  go_enter Tryz.func105, Tryz.ntmps105
  go_wp2_with fail
  go_ret
  exact ⟨rfl, rfl⟩
theorem mkind (c : UInt8) (w : World) :
    Calls Tryz.prog 105 #[.int .i32 (c.toNat : Int)] w fun e w' => e = .returned (.int .i64 (kd c)) ∧ w = w' := by
  rw [kd_kdn]; exact mkind_n _ w

theorem wrd_yes (s : ByteArray) (W : List UInt8) (h : (s.toList == W) = true) (hW : wrd W = true) : wrd (byt s) = true := by
  have : byt s = W := by rw [← eq_of_beq h, toList_data]; rfl
  rw [this]; exact hW
theorem wrd_no (s : ByteArray) (h : ((wds.map fun W => s.toList == W).any id) = false) : wrd (byt s) = false := by
  have e : s.toList = byt s := toList_data s
  rw [e] at h
  unfold wrd
  generalize byt s = l at h
  have key : ∀ m : List (List UInt8), (m.map fun W => l == W).any id = false → m.contains l = false := by
    intro m
    induction m with
    | nil => intro _; rfl
    | cons a m ih =>
      intro h
      rw [List.map_cons, List.any_cons, Bool.or_eq_false_iff] at h
      rw [List.contains_cons, ih h.2]
      have h1 : (l == a) = false := h.1
      rw [h1]; rfl
  exact key wds h
set_option maxRecDepth 100000 in
set_option maxHeartbeats 4000000 in
theorem mword (s : ByteArray) (w : World) :
    Calls Tryz.prog 125 #[.string s] w fun e w' => e = .returned (.bool (wrd (byt s))) ∧ w = w' := by
  obtain ⟨R, hR⟩ : ∃ R, wrd (byt s) = R := ⟨_, rfl⟩
  rw [hR]
  have HR := Lib.hid hR
  clear hR
  go_enter Tryz.func125, Tryz.ntmps125
  go_wp2_with fail
  all_goals first
    | (rename_i h1 h2; exact absurd (h1.symm.trans h2) (by decide))
    | (rename_i h1 h2; go_ret; exact ⟨by rw [← HR.out, wrd_yes s _ h1 (by decide)]; rfl, rfl⟩)
    | (rename_i h1; go_ret; exact ⟨by rw [← HR.out, wrd_yes s _ h1 (by decide)]; rfl, rfl⟩)
    | (go_ret; exact ⟨by rw [← HR.out, wrd_no s (by simp only [wds, List.map_cons, List.map_nil, List.any_cons, List.any_nil, id, *, Bool.or_false])]; rfl, rfl⟩)

/-! ### The length of a beginning -/
def KindsAt (b off : Nat) (K : List Int) (w : World) : Prop := ∀ j, j < K.length → w.cell? ⟨b, off + j, none⟩ = some (.int .i64 (K.getD j 0))
theorem i32_byte (c : UInt8) : wrap32 (c.toNat : Int) = (c.toNat : Int) := by
  have := c.toNat_lt
  unfold wrap32; omega
theorem mcontains (b off c : Nat) (K : List Int) (hk : K.length ≤ 100) (x : Int) (w : World) (h : KindsAt b off K w) :
    Calls Tryz.prog 126 #[.slice (some ⟨b, off, none⟩) K.length c, .int .i64 x] w fun e w' => e = .returned (.bool (K.contains x)) ∧ w = w' := by
  refine (Tryz.slices_Contains_int b off K.length c K x w (Nat.le_refl _) (by omega) h).mono fun e w' ⟨he, hw⟩ => ⟨?_, hw.symm⟩
  rw [he, List.take_length]

set_option maxRecDepth 100000 in
set_option maxHeartbeats 1000000 in
theorem mspan (s : ByteArray) (hs : s.size ≤ 9223372036854775806) (K : List Int) (b off c : Nat) (hk : K.length ≤ 100) (w : World) (h : KindsAt b off K w) :
    Calls Tryz.prog 116 #[.string s, .slice (some ⟨b, off, none⟩) K.length c] w fun e w' => e = .returned (.int .i64 ((sp (inK K) (byt s) : Nat) : Int)) ∧ w = w' := by
  have CN := Lib.hid (fun x W hW => mcontains b off c K hk x W hW)
  have HC := Lib.hid h
  have MK := Lib.hid (fun x W => mkind x W)
  obtain ⟨n, hn⟩ : ∃ n, K.length = n := ⟨_, rfl⟩
  rw [hn] at CN ⊢
  clear h hk hn
  go_enter Tryz.func116, Tryz.ntmps116
  go_wp2_with fail
  go_loop [8] (fun i => ∃ (k : Nat), k ≤ s.size ∧ i = .int .i64 k ∧ ∀ j, (hj : j < k) → ∃ h : j < (byt s).length, inK K ((byt s)[j]) = true) (fun i => s.size - (RowKit.intOf i).toNat)
  case atStart => exact ⟨0, by omega, rfl, fun j hj => absurd hj (Nat.not_lt_zero _)⟩
  case round =>
    obtain ⟨k, hk, rfl, hall⟩ := hrel
    have HA := Lib.hid hall
    clear hall
    by_cases hlt : k < s.size
    · have hkz : (k : Int) < (s.size : Int) := by omega
      have hcv := i32_byte s[k]
      have MB := Lib.hid (MK.out s[k])
      have CB := Lib.hid (CN.out (kd s[k]))
      have HB : Hid (K.contains (kd s[k]) = inK K ((byt s)[k]'(by rw [byt_len]; exact hlt))) := Lib.hid rfl
      obtain ⟨y, hy⟩ : ∃ y, kd s[k] = y := ⟨_, rfl⟩
      rw [hy] at MB CB HB
      obtain ⟨B, hB⟩ : ∃ B, K.contains y = B := ⟨_, rfl⟩
      rw [hB] at CB HB
      clear hy hB
      cases B
      · go_wp2_with fail
        with_reducible refine (MB.out _).mono ?_
        rintro e w1 ⟨rfl, rfl⟩
        go_wp2_with fail
        with_reducible refine (CB.out _ HC.out).mono ?_
        rintro e w1 ⟨rfl, rfl⟩
        go_wp2_with fail
        go_ret
        refine ⟨?_, rfl⟩
        have : sp (inK K) (byt s) = k := sp_at _ _ k (by rw [byt_len]; exact hlt) (fun j hj => (HA.out j hj).2) HB.out.symm
        rw [this]; rfl
      · go_wp2_with fail
        with_reducible refine (MB.out _).mono ?_
        rintro e w1 ⟨rfl, rfl⟩
        go_wp2_with fail
        with_reducible refine (CB.out _ HC.out).mono ?_
        rintro e w1 ⟨rfl, rfl⟩
        go_wp2_with fail
        go_round
        case rel =>
          refine ⟨k + 1, by omega, by go_num, fun j hj => ?_⟩
          by_cases hjk : j < k
          · exact HA.out j hjk
          · have : j = k := by omega
            subst this
            exact ⟨by rw [byt_len]; exact hlt, HB.out.symm⟩
        case measure => simp [RowKit.intOf]; omega
    · have he : k = s.size := by omega
      subst he
      go_wp2_with fail
      go_ret
      refine ⟨?_, rfl⟩
      have : sp (inK K) (byt s) = (byt s).length := sp_all _ _ (fun j hj => (HA.out j (by rw [← byt_len]; exact hj)).2)
      rw [this, byt_len]; rfl

end Go.Proofs.YthanoilbcdhbkaaGreatDoor
