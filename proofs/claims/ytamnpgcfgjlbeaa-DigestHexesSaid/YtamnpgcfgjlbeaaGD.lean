/-
  Hexadecimal forms: contracts of the document's own Unhex and Hex, and of package digest's Hex.
-/
import Derived.Test.YtamnpgcfgjlbeaaGC
namespace Go.Proofs.Ytamnpgcfgjlbeaa
open Go Go.RowKit Go.Lib GM

set_option maxRecDepth 100000 in
set_option maxHeartbeats 1000000 in
theorem runhex (s : ByteArray) (w : World) :
    Calls Try.prog 18 #[.string s] w fun e w' => e = .returned (.tuple #[.int .u64 ((unV (byt s) : Nat) : Int), .int .i64 (unE (byt s))]) ∧ w = w' := by
  have hlen := byt_len s
  by_cases hs : s.size = 16
  · obtain ⟨E, hE⟩ : ∃ E, unE (byt s) = E := ⟨_, rfl⟩
    obtain ⟨V, hV⟩ : ∃ V, unV (byt s) = V := ⟨_, rfl⟩
    rw [hE, hV]
    have HE := Lib.hid hE
    have HV := Lib.hid hV
    have I := Lib.hid (fun b W => rhexd b W)
    have HL := Lib.hid (show (byt s).length = 16 by omega)
    have hsz : (s.size : Int) = 16 := by omega
    have HS := Lib.hid hs
    clear hE hV hlen hs
    go_enter Try.func18, Try.ntmps18
    go_wp2_with fail
    go_loop [4, 5] (fun x i => ∃ (g k : Nat), x = .int .u64 g ∧ i = .int .i64 k ∧ UnAt (byt s) g k) (fun _ i => 16 - (RowKit.intOf i).toNat)
    case atStart => exact ⟨0, 0, rfl, rfl, UnAt.start _⟩
    case round =>
      obtain ⟨g, k, rfl, rfl, hU⟩ := hrel
      have HU := Lib.hid hU
      have hk := hU.le
      clear hU
      by_cases hlt : k < 16
      · have hlts : k < s.size := by have := HS.out; omega
        have hkz : (k : Int) < 16 := by omega
        have hkz2 : (k : Int) < (s.size : Int) := by omega
        have HD := Lib.hid (drop_cons' s k hlts)
        obtain ⟨c, hc⟩ : ∃ c, s[k] = c := ⟨_, rfl⟩
        have I1 := I.out c
        rcases hv_ge c with h1 | ⟨h1, h2⟩
        · rw [h1] at I1
          have I2 := Lib.hid I1
          obtain ⟨z1, z2⟩ := HU.out.bad (by rw [HD.out, hc]) (by omega : hv c < 0)
          have HX : Hid (E = 2 ∧ V = 0) := Lib.hid ⟨by rw [← HE.out]; exact z1, by rw [← HV.out]; exact z2⟩
          clear I1 z1 z2 h1
          go_wp2_with fail
          refine (I2.out _).mono ?_
          rintro e w1 ⟨rfl, rfl⟩
          go_wp2_with fail
          go_ret2
          exact ⟨by rw [HX.out.1, HX.out.2]; rfl, rfl⟩
        · obtain ⟨d, hd⟩ : ∃ d : Nat, hv c = d := ⟨(hv c).toNat, by omega⟩
          rw [hd] at I1 h1 h2
          have I2 := Lib.hid I1
          have hd16 : d < 16 := by omega
          have hg60 : g < 1152921504606846976 := Nat.lt_of_lt_of_le HU.out.lt (pow16 hlt)
          have HN := Lib.hid (HU.out.next hlt (by rw [HD.out, hc]) hd hd16)
          have o2 : IntKind.u64.wrap (16 * (g : Int)) = 16 * (g : Int) := by rw [IntKind.wrap_u64]; omega
          have o3 : IntKind.u64.wrap (d : Int) = (d : Int) := by rw [IntKind.wrap_u64]; omega
          obtain ⟨q, hq⟩ : ∃ q, 16 * g + d = q := ⟨_, rfl⟩
          have o4 : 16 * (g : Int) + (d : Int) = (q : Int) := by omega
          have o5 : IntKind.u64.wrap (q : Int) = (q : Int) := by rw [IntKind.wrap_u64]; omega
          have HN1 := HN.out
          rw [hq] at HN1
          have HN2 := Lib.hid HN1
          clear I1 HN HN1 hq hd
          go_wp2_with fail
          refine (I2.out _).mono ?_
          rintro e w1 ⟨rfl, rfl⟩
          go_wp2_with fail
          go_round
          case rel => exact ⟨q, k + 1, rfl, by go_num, HN2.out⟩
          case measure => simp [RowKit.intOf]; omega
      · have he : k = 16 := by omega
        subst he
        obtain ⟨z1, z2⟩ := HU.out.stop HL.out
        have HX : Hid (E = 0 ∧ V = g) := Lib.hid ⟨by rw [← HE.out]; exact z1, by rw [← HV.out]; exact z2⟩
        clear z1 z2
        go_wp2_with fail
        go_ret2
        exact ⟨by rw [HX.out.1, HX.out.2]; rfl, rfl⟩
  · obtain ⟨e1, e2⟩ := un_not (byt s) (by omega)
    rw [e1, e2]
    have hsz : ¬ (s.size : Int) = 16 := by omega
    have hsb : ((s.size : Int) != 16) = true := by rw [bne_iff_ne]; exact hsz
    clear hlen e1 e2 hs
    go_enter Try.func18, Try.ntmps18
    go_wp2_with fail
    go_ret2
    exact ⟨rfl, rfl⟩

set_option maxRecDepth 100000 in
set_option maxHeartbeats 1000000 in
theorem rhexf (h : Nat) (hh : h < 18446744073709551616) (w : World) :
    Calls Try.prog 20 #[.int .u64 h] w fun e w' => e = .returned (.string (str (hex h))) ∧ w = w' := by
  obtain ⟨R, hR⟩ : ∃ R, hex h = R := ⟨_, rfl⟩
  rw [hR]
  have HR := Lib.hid hR
  have HH := Lib.hid hh
  clear hR hh
  go_enter Try.func20, Try.ntmps20
  go_wp2_with fail
  go_loop [0, 3, 4, 5] (fun x v i _ => ∃ (g k : Nat) (o : List UInt8), k ≤ 16 ∧ o.length = k ∧ x = .int .u64 g ∧ v = .string (str o) ∧ i = .int .i64 k ∧ g < 18446744073709551616 ∧ hx (16 - k) g ++ o = R) (fun _ _ i _ => 16 - (RowKit.intOf i).toNat)
  case atStart => exact ⟨h, 0, [], by omega, rfl, rfl, rfl, rfl, HH.out, by rw [← HR.out]; simp [hex]⟩
  case round =>
    obtain ⟨g, k, o, hk, hok, rfl, rfl, rfl, hg, he⟩ := hrel
    have HE := Lib.hid he
    have hss : (str o).size = k := by rw [str_size, hok]
    have HOK := Lib.hid hok
    obtain ⟨S, hS⟩ : ∃ S, str o = S := ⟨_, rfl⟩
    rw [hS] at hss ⊢
    by_cases hlt : k < 16
    · have hkz : (k : Int) < 16 := by omega
      have hd16 : g % 16 < 16 := Nat.mod_lt _ (by decide)
      have HP : Hid ((⟨#[48, 49, 50, 51, 52, 53, 54, 55, 56, 57, 97, 98, 99, 100, 101, 102]⟩ : ByteArray).extract (g % 16) (g % 16 + 1) ++ S = str (hdg (g % 16) :: o)) := Lib.hid (by rw [dig_piece _ hd16, ← hS, str_app]; rfl)
      have HN : Hid (hx (16 - (k + 1)) (g / 16) ++ (hdg (g % 16) :: o) = R) := Lib.hid (by
        rw [← HE.out, show 16 - k = (16 - (k + 1)) + 1 by omega]
        show _ = (hx (16 - (k + 1)) (g / 16) ++ [hdg (g % 16)]) ++ o
        rw [List.append_assoc]; rfl)
      have hsl : ((⟨#[48, 49, 50, 51, 52, 53, 54, 55, 56, 57, 97, 98, 99, 100, 101, 102]⟩ : ByteArray).extract (g % 16) (g % 16 + 1)).size ≤ 1 := by rw [ByteArray.size_extract]; omega
      obtain ⟨d, hd⟩ : ∃ d, g % 16 = d := ⟨_, rfl⟩
      obtain ⟨q, hq⟩ : ∃ q, g / 16 = q := ⟨_, rfl⟩
      have e1 : (g : Int) % 16 = (d : Int) := by omega
      have e2 : (g : Int) / 16 = (q : Int) := by omega
      have e3 : IntKind.u64.wrap (q : Int) = (q : Int) := by rw [IntKind.wrap_u64]; omega
      have dz : (d : Int) + 1 ≤ 16 := by omega
      have HP1 := HP.out
      have HN1 := HN.out
      rw [hd] at HP1 HN1 hsl hd16
      rw [hq] at HN1
      have HP2 := Lib.hid HP1
      have HN2 := Lib.hid HN1
      have HQ := Lib.hid (show q < 18446744073709551616 by omega)
      have HL := Lib.hid (show (hdg d :: o).length = k + 1 by simp [hok])
      clear HP HN HP1 HN1 hS hd hq hg he hok
      go_wp2_with fail
      go_round
      case rel => exact ⟨q, k + 1, hdg d :: o, by omega, HL.out, rfl, by rw [HP2.out], by go_num, HQ.out, HN2.out⟩
      case measure => simp [RowKit.intOf]; omega
    · have he : k = 16 := by omega
      subst he
      have HE2 : Hid (S = str R) := Lib.hid (by rw [← HE.out, ← hS]; rfl)
      clear hS
      go_wp2_with fail
      go_ret
      exact ⟨by rw [HE2.out]; rfl, rfl⟩
end Go.Proofs.Ytamnpgcfgjlbeaa
