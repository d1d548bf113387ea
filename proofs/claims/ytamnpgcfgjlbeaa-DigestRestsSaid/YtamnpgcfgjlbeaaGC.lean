/-
  Hexadecimal forms: contracts of Unhex and Hex, and of the document's own.
-/
import Derived.Test.YtamnpgcfgjlbeaaGB
namespace Go.Proofs.Ytamnpgcfgjlbeaa
open Go Go.RowKit Go.Lib GM

theorem byte_back (b : UInt8) : (b.toNat : Int).toNat.toUInt8 = b := by
  rw [Int.toNat_natCast]; exact UInt8.ofNat_toNat
theorem midx (b : UInt8) (w : World) :
    Calls Try.prog 32 #[.string ⟨#[48, 49, 50, 51, 52, 53, 54, 55, 56, 57, 97, 98, 99, 100, 101, 102]⟩, .int .u8 (b.toNat : Int)] w fun e w' => e = .returned (.int .i64 (hv b)) ∧ w = w' := by
  refine (Try.strings_IndexByte ⟨#[48, 49, 50, 51, 52, 53, 54, 55, 56, 57, 97, 98, 99, 100, 101, 102]⟩ (b.toNat : Int) w).mono fun e w' ⟨he, hw⟩ => ⟨?_, hw.symm⟩
  rw [he, byte_back]
  have : Lib.indexByte digs b = hv b := idx_hv b
  exact congrArg (fun z => Ending.returned (.int .i64 z)) this

theorem rhexd (b : UInt8) (w : World) :
    Calls Try.prog 33 #[.int .u8 (b.toNat : Int)] w fun e w' => e = .returned (.int .i64 (hv b)) ∧ w = w' := by
  have hb := b.toNat_lt
  obtain ⟨R, hR⟩ : ∃ R, hv b = R := ⟨_, rfl⟩
  rw [hR]
  unfold hv at hR
  obtain ⟨n, hn⟩ : ∃ n, b.toNat = n := ⟨_, rfl⟩
  rw [hn] at hR hb ⊢
  clear hn
  by_cases h1 : 48 ≤ n ∧ n ≤ 57
  · rw [if_pos h1] at hR
    obtain ⟨a1, a2⟩ := h1
    have HR := Lib.hid hR
    clear hR
    have b1 : (48 : Int) ≤ (n : Int) := by omega
    have b2 : (n : Int) ≤ 57 := by omega
    have d1 : decide ((48 : Int) ≤ (n : Int)) = true := by simpa using b1
    have d2 : decide ((n : Int) ≤ 57) = true := by simpa using b2
    have e1 : IntKind.u8.wrap ((n : Int) - 48) = (n : Int) - 48 := by rw [IntKind.wrap_u8]; omega
    go_enter Try.func33, Try.ntmps33
    go_wp2_with fail
    go_ret
    exact ⟨by rw [← HR.out]; rfl, rfl⟩
  · rw [if_neg h1] at hR
    by_cases h2 : 97 ≤ n ∧ n ≤ 102
    · rw [if_pos h2] at hR
      obtain ⟨a1, a2⟩ := h2
      have HR := Lib.hid hR
      clear hR h1
      have b1 : (48 : Int) ≤ (n : Int) := by omega
      have b2 : ¬ (n : Int) ≤ 57 := by omega
      have b3 : (97 : Int) ≤ (n : Int) := by omega
      have b4 : (n : Int) ≤ 102 := by omega
      have d1 : decide ((48 : Int) ≤ (n : Int)) = true := by simpa using b1
      have d2 : decide ((n : Int) ≤ 57) = false := by simpa using b2
      have d3 : decide ((97 : Int) ≤ (n : Int)) = true := by simpa using b3
      have d4 : decide ((n : Int) ≤ 102) = true := by simpa using b4
      have e1 : IntKind.u8.wrap ((n : Int) - 97) = (n : Int) - 97 := by rw [IntKind.wrap_u8]; omega
      go_enter Try.func33, Try.ntmps33
      go_wp2_with fail
      go_ret
      exact ⟨by rw [← HR.out, show (n : Int) - 87 = (n : Int) - 97 + 10 by omega]; rfl, rfl⟩
    · rw [if_neg h2] at hR
      have HR := Lib.hid hR
      clear hR
      have hc : n < 48 ∨ (57 < n ∧ n < 97) ∨ 102 < n := by omega
      clear h1 h2
      rcases hc with h | ⟨h, h'⟩ | h
      · have d1 : decide ((48 : Int) ≤ (n : Int)) = false := by simp; omega
        have d3 : decide ((97 : Int) ≤ (n : Int)) = false := by simp; omega
        go_enter Try.func33, Try.ntmps33
        go_wp2_with fail
        go_ret
        exact ⟨by rw [← HR.out]; rfl, rfl⟩
      · have d1 : decide ((48 : Int) ≤ (n : Int)) = true := by simp; omega
        have d2 : decide ((n : Int) ≤ 57) = false := by simp; omega
        have d3 : decide ((97 : Int) ≤ (n : Int)) = false := by simp; omega
        go_enter Try.func33, Try.ntmps33
        go_wp2_with fail
        go_ret
        exact ⟨by rw [← HR.out]; rfl, rfl⟩
      · have d1 : decide ((48 : Int) ≤ (n : Int)) = true := by simp; omega
        have d2 : decide ((n : Int) ≤ 57) = false := by simp; omega
        have d3 : decide ((97 : Int) ≤ (n : Int)) = true := by simp; omega
        have d4 : decide ((n : Int) ≤ 102) = false := by simp; omega
        go_enter Try.func33, Try.ntmps33
        go_wp2_with fail
        go_ret
        exact ⟨by rw [← HR.out]; rfl, rfl⟩

theorem or16 (g d : Nat) (hg : g < 1152921504606846976) (hd : d < 16) : bits .or .u64 ((g : Int) * 16) (d : Int) = ((16 * g + d : Nat) : Int) := by
  have e : ((g : Int) * 16) = ((16 * g : Nat) : Int) := by omega
  rw [e, bits_or_u64_nat (16 * g) d (by omega) (by omega)]
  have := Nat.two_pow_add_eq_or_of_lt (i := 4) hd g
  have e2 : 2 ^ 4 * g = 16 * g := rfl
  rw [e2] at this
  rw [this]
theorem pow16 {k : Nat} (hk : k < 16) : 16 ^ k ≤ 1152921504606846976 := by
  have : 16 ^ k ≤ 16 ^ 15 := Nat.pow_le_pow_right (by decide) (by omega)
  have e : (16 : Nat) ^ 15 = 1152921504606846976 := by decide
  omega
theorem un_not (l : List UInt8) (h : ¬ l.length = 16) : unE l = 2 ∧ unV l = 0 := by
  unfold unE unV
  have : ¬ (l.length = 16 ∧ hexOk l = true) := fun q => h q.1
  rw [if_neg this, if_neg this]; exact ⟨rfl, rfl⟩
theorem un_bad (l : List UInt8) (h : hexOk l = false) : unE l = 2 ∧ unV l = 0 := by
  unfold unE unV
  have : ¬ (l.length = 16 ∧ hexOk l = true) := fun q => by rw [h] at q; exact absurd q.2 (by decide)
  rw [if_neg this, if_neg this]; exact ⟨rfl, rfl⟩
theorem un_good (l : List UInt8) (h : l.length = 16) (h2 : hexOk l = true) : unE l = 0 ∧ unV l = hfold 0 l := by
  unfold unE unV
  rw [if_pos ⟨h, h2⟩, if_pos ⟨h, h2⟩]; exact ⟨rfl, rfl⟩
/-- Where a reading stands behind k digits. -/
structure UnAt (l : List UInt8) (g k : Nat) : Prop where
  le : k ≤ 16
  lt : g < 16 ^ k
  ok : hexOk (l.drop k) = hexOk l
  fold : hfold g (l.drop k) = hfold 0 l
theorem UnAt.start (l : List UInt8) : UnAt l 0 0 := ⟨by omega, by decide, rfl, rfl⟩
theorem UnAt.bad {l : List UInt8} {g k : Nat} (h : UnAt l g k) {c : UInt8} {t : List UInt8} (hd : l.drop k = c :: t) (hc : hv c < 0) : unE l = 2 ∧ unV l = 0 := by
  apply un_bad
  rw [← h.ok, hd]
  have : decide (0 ≤ hv c) = false := by simp; omega
  simp [hexOk, this]
theorem UnAt.next {l : List UInt8} {g k : Nat} (h : UnAt l g k) (hk : k < 16) {c : UInt8} (hd : l.drop k = c :: l.drop (k + 1)) {d : Nat} (hc : hv c = d) (hd16 : d < 16) : UnAt l (16 * g + d) (k + 1) := by
  refine ⟨by omega, ?_, ?_, ?_⟩
  · have := h.lt
    rw [Nat.pow_succ]; omega
  · rw [← h.ok, hd]
    have : decide (0 ≤ hv c) = true := by simp; omega
    simp [hexOk, this]
  · rw [← h.fold, hd, hfold_cons]
    unfold hstp
    rw [hc, Int.toNat_natCast]
theorem UnAt.stop {l : List UInt8} {g : Nat} (h : UnAt l g 16) (hl : l.length = 16) : unE l = 0 ∧ unV l = g := by
  have e : l.drop 16 = [] := by rw [← hl]; exact List.drop_length
  have h1 := h.ok
  have h2 := h.fold
  rw [e] at h1 h2
  have := un_good l hl h1.symm
  rw [← h2] at this
  exact this

set_option maxRecDepth 100000 in
set_option maxHeartbeats 1000000 in
theorem munhex (s : ByteArray) (w : World) :
    Calls Try.prog 17 #[.string s] w fun e w' => e = .returned (.tuple #[.int .u64 ((unV (byt s) : Nat) : Int), .int .i64 (unE (byt s))]) ∧ w = w' := by
  have hlen := byt_len s
  by_cases hs : s.size = 16
  · obtain ⟨E, hE⟩ : ∃ E, unE (byt s) = E := ⟨_, rfl⟩
    obtain ⟨V, hV⟩ : ∃ V, unV (byt s) = V := ⟨_, rfl⟩
    rw [hE, hV]
    have HE := Lib.hid hE
    have HV := Lib.hid hV
    have I := Lib.hid (fun b W => midx b W)
    have HL := Lib.hid (show (byt s).length = 16 by omega)
    have hsz : (s.size : Int) = 16 := by omega
    have HS := Lib.hid hs
    clear hE hV hlen hs
    go_enter Try.func17, Try.ntmps17
    go_wp2_with fail
    go_loop [4, 12] (fun x i => ∃ (g k : Nat), x = .int .u64 g ∧ i = .int .i64 k ∧ UnAt (byt s) g k) (fun _ i => 16 - (RowKit.intOf i).toNat)
    case atStart => exact ⟨0, 0, rfl, rfl, UnAt.start _⟩
    case round =>
      obtain ⟨g, k, rfl, rfl, hU⟩ := hrel
      have HU := Lib.hid hU
      have hk := hU.le
      clear hU
      by_cases hlt : k < 16
      · have hlts : k < s.size := by have := HS.out; omega
        have hkz : (k : Int) < 16 := by omega
        have HD := Lib.hid (drop_cons' s k hlts)
        obtain ⟨c, hc⟩ : ∃ c, s[k] = c := ⟨_, rfl⟩
        have I1 := I.out c
        rcases hv_ge c with h1 | ⟨h1, h2⟩
        · rw [h1] at I1
          have I2 := Lib.hid I1
          obtain ⟨z1, z2⟩ := HU.out.bad (by rw [HD.out, hc]) (by omega : hv c < 0)
          have HX : Hid (E = 2 ∧ V = 0) := Lib.hid ⟨by rw [← HE.out]; exact z1, by rw [← HV.out]; exact z2⟩
          clear I1 z1 z2 h1
          go_wp2_with fail
          refine (I2.out _).mono ?_
          rintro e w1 ⟨rfl, rfl⟩
          go_wp2_with fail
          go_ret2
          exact ⟨by rw [HX.out.1, HX.out.2]; rfl, rfl⟩
        · obtain ⟨d, hd⟩ : ∃ d : Nat, hv c = d := ⟨(hv c).toNat, by omega⟩
          rw [hd] at I1 h1 h2
          have I2 := Lib.hid I1
          have hd16 : d < 16 := by omega
          have hg60 : g < 1152921504606846976 := Nat.lt_of_lt_of_le HU.out.lt (pow16 hlt)
          have HN := Lib.hid (HU.out.next hlt (by rw [HD.out, hc]) hd hd16)
          have o1 := or16 g d hg60 hd16
          have o2 : IntKind.u64.wrap ((g : Int) * 16) = (g : Int) * 16 := by rw [IntKind.wrap_u64]; omega
          have o3 : IntKind.u64.wrap (d : Int) = (d : Int) := by rw [IntKind.wrap_u64]; omega
          obtain ⟨q, hq⟩ : ∃ q, 16 * g + d = q := ⟨_, rfl⟩
          have HN1 := HN.out
          rw [hq] at HN1 o1
          have HN2 := Lib.hid HN1
          clear I1 HN HN1 hq hd
          go_wp2_with fail
          refine (I2.out _).mono ?_
          rintro e w1 ⟨rfl, rfl⟩
          go_wp2_with fail
          go_round
          case rel => exact ⟨q, k + 1, rfl, by go_num, HN2.out⟩
          case measure => simp [RowKit.intOf]; omega
      · have he : k = 16 := by omega
        subst he
        obtain ⟨z1, z2⟩ := HU.out.stop HL.out
        have HX : Hid (E = 0 ∧ V = g) := Lib.hid ⟨by rw [← HE.out]; exact z1, by rw [← HV.out]; exact z2⟩
        clear z1 z2
        go_wp2_with fail
        go_ret2
        exact ⟨by rw [HX.out.1, HX.out.2]; rfl, rfl⟩
  · obtain ⟨e1, e2⟩ := un_not (byt s) (by omega)
    rw [e1, e2]
    have hsz : ¬ (s.size : Int) = 16 := by omega
    have hsb : ((s.size : Int) != 16) = true := by rw [bne_iff_ne]; exact hsz
    clear hlen e1 e2 hs
    go_enter Try.func17, Try.ntmps17
    go_wp2_with fail
    go_ret2
    exact ⟨rfl, rfl⟩
end Go.Proofs.Ytamnpgcfgjlbeaa
