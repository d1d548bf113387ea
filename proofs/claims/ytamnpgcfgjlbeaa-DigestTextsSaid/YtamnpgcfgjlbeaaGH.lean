/-
  Check digits: contracts of Seal and Sealed, and of the document's own.
-/
import Derived.Test.YtamnpgcfgjlbeaaGG
namespace Go.Proofs.Ytamnpgcfgjlbeaa
open Go Go.RowKit Go.Lib GM

theorem seal_big (l : List UInt8) (h : l.length < 1 ∨ 46 < l.length) : sealE l = 5 ∧ sealV l = [] := by
  have : sealE l = 5 := by unfold sealE; rw [if_pos h]
  refine ⟨this, ?_⟩
  unfold sealV; rw [this]; rfl
theorem seal_mid (l : List UInt8) (h : ¬ (l.length < 1 ∨ 46 < l.length)) : (pln l = false → sealE l = 2 ∧ sealV l = []) ∧ (pln l = true → sealE l = 0 ∧ sealV l = sealL l) := by
  constructor
  · intro hp
    have : sealE l = 2 := by unfold sealE; rw [if_neg h, hp]; rfl
    refine ⟨this, ?_⟩
    unfold sealV; rw [this]; rfl
  · intro hp
    have : sealE l = 0 := by unfold sealE; rw [if_neg h, hp]; rfl
    refine ⟨this, ?_⟩
    unfold sealV; rw [this]; rfl
theorem byt_00 (s : ByteArray) : byt (s ++ ⟨#[48, 48]⟩) = byt s ++ [48, 48] := byt_app s _
theorem pln_00 (l : List UInt8) : pln (l ++ [48, 48]) = pln l := by
  rw [pln_app]
  have : pln [48, 48] = true := by decide
  rw [this, Bool.and_true]
theorem ten_piece (r : Nat) (h : r < 10) : (⟨#[48, 49, 50, 51, 52, 53, 54, 55, 56, 57]⟩ : ByteArray).extract r (r + 1) = str [UInt8.ofNat (48 + r)] := by
  have key : ∀ r : Fin 10, (⟨#[48, 49, 50, 51, 52, 53, 54, 55, 56, 57]⟩ : ByteArray).extract r.val (r.val + 1) = str [UInt8.ofNat (48 + r.val)] := by decide
  exact key ⟨r, h⟩

set_option maxRecDepth 100000 in
set_option maxHeartbeats 2000000 in
theorem mseal (s : ByteArray) (w : World) :
    Calls Try.prog 23 #[.string s] w fun e w' => e = .returned (.tuple #[.string (str (sealV (byt s))), .int .i64 (sealE (byt s))]) ∧ Below w.heap.size w w' := by
  have hlen := byt_len s
  by_cases hb : s.size < 1 ∨ 46 < s.size
  · obtain ⟨z1, z2⟩ := seal_big (byt s) (by omega)
    rw [z1, z2]
    rcases hb with hb | hb
    · have d1 : decide ((s.size : Int) < 1) = true := by simp; omega
      have d2 : (s.size : Int) < 1 := by omega
      clear z1 z2 hlen hb
      go_enter Try.func23, Try.ntmps23
      go_wp2_with fail
      go_ret2
      exact ⟨rfl, bref _⟩
    · have d1 : decide ((s.size : Int) < 1) = false := by simp; omega
      have d2 : decide ((46 : Int) < (s.size : Int)) = true := by simp; omega
      have d3 : (46 : Int) < (s.size : Int) := by omega
      clear z1 z2 hlen hb
      go_enter Try.func23, Try.ntmps23
      go_wp2_with fail
      go_ret2
      exact ⟨rfl, bref _⟩
  · obtain ⟨HBad, HGood⟩ := seal_mid (byt s) (by omega)
    have P0 := fun W => mmod (s ++ ⟨#[48, 48]⟩) W
    rw [byt_00] at P0
    have hl2 : ¬ ((byt s ++ [48, 48]).length < 1 ∨ 48 < (byt s ++ [48, 48]).length) := by rw [List.length_append, List.length_cons, List.length_cons, List.length_nil]; omega
    obtain ⟨MBad, MGood⟩ := mE_mid (byt s ++ [48, 48]) hl2
    have d1 : decide ((s.size : Int) < 1) = false := by simp; omega
    have d2 : decide ((46 : Int) < (s.size : Int)) = false := by simp; omega
    have hs48 : s.size ≤ 46 := by omega
    cases hp : pln (byt s)
    · obtain ⟨z1, z2⟩ := HBad hp
      obtain ⟨y1, y2⟩ := MBad (by rw [pln_00]; exact hp)
      rw [z1, z2]
      rw [y1, y2] at P0
      have P := Lib.hid P0
      clear z1 z2 y1 y2 P0 HBad HGood MBad MGood hlen hb hp hl2
      go_enter Try.func23, Try.ntmps23
      go_wp2_with fail
      refine (P.out _).mono ?_
      rintro e w1 ⟨rfl, rfl⟩
      go_wp2_with fail
      go_ret2
      exact ⟨rfl, bref _⟩
    · obtain ⟨z1, z2⟩ := HGood hp
      obtain ⟨y1, y2⟩ := MGood (by rw [pln_00]; exact hp)
      rw [z1, z2]
      rw [y1, y2] at P0
      have hr97 := rst_lt (byt s ++ [48, 48])
      have HS : str (sealL (byt s)) = s ++ str [UInt8.ofNat (48 + (98 - rst (byt s ++ [48, 48])) / 10), UInt8.ofNat (48 + (98 - rst (byt s ++ [48, 48])) % 10)] := by
        unfold sealL chk
        rw [← str_app, str_byt]
      obtain ⟨r, hr⟩ : ∃ r, rst (byt s ++ [48, 48]) = r := ⟨_, rfl⟩
      rw [hr] at P0 HS hr97
      obtain ⟨q, hq⟩ : ∃ q, 98 - r = q := ⟨_, rfl⟩
      rw [hq] at HS
      obtain ⟨x, hx⟩ : ∃ x, q / 10 = x := ⟨_, rfl⟩
      obtain ⟨y, hy⟩ : ∃ y, q % 10 = y := ⟨_, rfl⟩
      rw [hx, hy] at HS
      have e0 : 98 - (r : Int) = (q : Int) := by omega
      have e1 : IntKind.u8.wrap (q : Int) = (q : Int) := by rw [IntKind.wrap_u8]; omega
      have e2 : (q : Int).tdiv 10 = (x : Int) := by rw [Int.tdiv_eq_ediv_of_nonneg (by omega)]; omega
      have e3 : (q : Int).tmod 10 = (y : Int) := by rw [Int.tmod_eq_emod_of_nonneg (by omega)]; omega
      have e4 : IntKind.u8.wrap (x : Int) = (x : Int) := by rw [IntKind.wrap_u8]; omega
      have e5 : IntKind.u8.wrap (y : Int) = (y : Int) := by rw [IntKind.wrap_u8]; omega
      have x10 : x < 10 := by omega
      have y10 : y < 10 := by omega
      obtain ⟨X, hX⟩ : ∃ X, UInt8.ofNat (48 + x) = X := ⟨_, rfl⟩
      obtain ⟨Y, hY⟩ : ∃ Y, UInt8.ofNat (48 + y) = Y := ⟨_, rfl⟩
      have e6 : 48 + (x : Int) = (X.toNat : Int) := by rw [← hX, (digit_ok x x10).2]; omega
      have e7 : 48 + (y : Int) = (Y.toNat : Int) := by rw [← hY, (digit_ok y y10).2]; omega
      have e8 : IntKind.u8.wrap (X.toNat : Int) = (X.toNat : Int) := by have := X.toNat_lt; rw [IntKind.wrap_u8]; omega
      have e9 : IntKind.u8.wrap (Y.toNat : Int) = (Y.toNat : Int) := by have := Y.toNat_lt; rw [IntKind.wrap_u8]; omega
      rw [hX, hY] at HS
      have hba : BytesAt w.heap.size 0 [X, Y] (w.alloc (.cells #[.int .u8 (X.toNat : Int), .int .u8 (Y.toNat : Int)] 5)) := by
        intro j hj
        have hj2 : j < 2 := hj
        match j, hj2 with
        | 0, _ => simp [go_sem]
        | 1, _ => simp [go_sem]
      have hcv := conv_bytes w.heap.size 0 2 [X, Y] 2 rfl _ hba
      have hz2 : (str [X, Y]).size = 2 := by rw [str_size]; rfl
      obtain ⟨T, hT⟩ : ∃ T, str [X, Y] = T := ⟨_, rfl⟩
      rw [hT] at HS hcv hz2
      have HS2 := Lib.hid HS
      have P := Lib.hid P0
      clear z1 z2 y1 y2 P0 HBad HGood MBad MGood hlen hb hp hl2 HS hr hq hx hy hX hY hT hba
      go_enter Try.func23, Try.ntmps23
      go_wp2_with fail
      refine (P.out _).mono ?_
      rintro e w1 ⟨rfl, rfl⟩
      go_wp2_with fail
      go_ret2
      exact ⟨by rw [HS2.out]; rfl, bal (bref _) _⟩
end Go.Proofs.Ytamnpgcfgjlbeaa
