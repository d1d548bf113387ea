/-
  Check digits: contracts of the document's own Plain, rest and Mod97; letter.
-/
import Derived.Test.YtamnpgcfgjlbeaaGF
namespace Go.Proofs.Ytamnpgcfgjlbeaa
open Go Go.RowKit Go.Lib GM

set_option maxRecDepth 100000 in
set_option maxHeartbeats 2000000 in
theorem rplain (s : ByteArray) (hs : s.size ≤ 9223372036854775806) (w : World) :
    Calls Try.prog 27 #[.string s] w fun e w' => e = .returned (.bool (pln (byt s))) ∧ w = w' := by
  obtain ⟨R, hR⟩ : ∃ R, pln (byt s) = R := ⟨_, rfl⟩
  rw [hR]
  have HR := Lib.hid hR
  clear hR
  go_enter Try.func27, Try.ntmps27
  go_wp2_with fail
  go_loop [3] (fun i => ∃ (k : Nat), k ≤ s.size ∧ i = .int .i64 k ∧ pln ((byt s).drop k) = R) (fun i => s.size - (RowKit.intOf i).toNat)
  case atStart => exact ⟨0, by omega, rfl, HR.out⟩
  case round =>
    obtain ⟨k, hk, rfl, hU⟩ := hrel
    have HU := Lib.hid hU
    clear hU
    by_cases hlt : k < s.size
    · have hkz : (k : Int) < (s.size : Int) := by omega
      have HD := Lib.hid (drop_cons' s k hlt)
      obtain ⟨b, hbb⟩ : ∃ b, s[k] = b := ⟨_, rfl⟩
      have HDB : Hid ((byt s).drop k = b :: (byt s).drop (k + 1)) := Lib.hid (by rw [HD.out, hbb])
      have hb256 := b.toNat_lt
      cases hok : okB b
      · have HX : Hid (R = false) := Lib.hid (by rw [← HU.out, HDB.out]; simp [pln, hok])
        have hcs := ok_not b hok
        obtain ⟨c, hc⟩ : ∃ c, b.toNat = c := ⟨_, rfl⟩
        rw [hc] at hcs hb256
        clear hok HDB HD
        rcases hcs with h | ⟨h, h'⟩ | h
        · have q1 : decide ((c : Int) < 48) = true := by simp; omega
          have q3 : decide ((c : Int) < 65) = true := by simp; omega
          go_wp2_with fail
          go_ret
          exact ⟨by rw [HX.out]; rfl, rfl⟩
        · have q1 : decide ((c : Int) < 48) = false := by simp; omega
          have q2 : decide ((57 : Int) < (c : Int)) = true := by simp; omega
          have q3 : decide ((c : Int) < 65) = true := by simp; omega
          go_wp2_with fail
          go_ret
          exact ⟨by rw [HX.out]; rfl, rfl⟩
        · have q1 : decide ((c : Int) < 48) = false := by simp; omega
          have q2 : decide ((57 : Int) < (c : Int)) = true := by simp; omega
          have q3 : decide ((c : Int) < 65) = false := by simp; omega
          have q4 : decide ((90 : Int) < (c : Int)) = true := by simp; omega
          go_wp2_with fail
          go_ret
          exact ⟨by rw [HX.out]; rfl, rfl⟩
      · have HN : Hid (pln ((byt s).drop (k + 1)) = R) := Lib.hid (by rw [← HU.out, HDB.out]; simp [pln, hok])
        have hcs := ok_cases b hok
        obtain ⟨c, hc⟩ : ∃ c, b.toNat = c := ⟨_, rfl⟩
        rw [hc] at hcs hb256
        clear hok HDB HD
        rcases hcs with ⟨_, _, h, h'⟩ | ⟨_, _, h, h'⟩
        · have q1 : decide ((c : Int) < 48) = false := by simp; omega
          have q2 : decide ((57 : Int) < (c : Int)) = false := by simp; omega
          go_wp2_with fail
          go_round
          case rel => exact ⟨k + 1, by omega, by go_num, HN.out⟩
          case measure => simp [RowKit.intOf]; omega
        · have q1 : decide ((c : Int) < 48) = false := by simp; omega
          have q2 : decide ((57 : Int) < (c : Int)) = true := by simp; omega
          have q3 : decide ((c : Int) < 65) = false := by simp; omega
          have q4 : decide ((90 : Int) < (c : Int)) = false := by simp; omega
          go_wp2_with fail
          go_round
          case rel => exact ⟨k + 1, by omega, by go_num, HN.out⟩
          case measure => simp [RowKit.intOf]; omega
    · have he : k = s.size := by omega
      subst he
      have HX : Hid (R = true) := Lib.hid (by rw [← HU.out, drop_nil']; rfl)
      go_wp2_with fail
      go_ret
      exact ⟨by rw [HX.out]; rfl, rfl⟩

set_option maxRecDepth 100000 in
set_option maxHeartbeats 2000000 in
theorem rrest (s : ByteArray) (hs : s.size ≤ 9223372036854775806) (hp : pln (byt s) = true) (w : World) :
    Calls Try.prog 35 #[.string s] w fun e w' => e = .returned (.int .i64 ((rst (byt s) : Nat) : Int)) ∧ w = w' := by
  obtain ⟨R, hR⟩ : ∃ R, rst (byt s) = R := ⟨_, rfl⟩
  rw [hR]
  have HR := Lib.hid hR
  have HP := Lib.hid hp
  clear hR hp
  go_enter Try.func35, Try.ntmps35
  go_wp2_with fail
  go_loop [3, 4] (fun x i => ∃ (n k : Nat), k ≤ s.size ∧ x = .int .i64 n ∧ i = .int .i64 k ∧ ReAt (byt s) n k) (fun _ i => s.size - (RowKit.intOf i).toNat)
  case atStart => exact ⟨0, 0, by omega, rfl, rfl, ReAt.start _⟩
  case round =>
    obtain ⟨n, k, hk, rfl, rfl, hU⟩ := hrel
    have HU := Lib.hid hU
    have hn := hU.lt
    clear hU
    by_cases hlt : k < s.size
    · have hkz : (k : Int) < (s.size : Int) := by omega
      have HD := Lib.hid (drop_cons' s k hlt)
      have hok0 : okB s[k] = true := by
        have := HP.out
        unfold pln at this
        rw [List.all_eq_true] at this
        exact this _ (get_mem s k hlt)
      obtain ⟨b, hbb⟩ : ∃ b, s[k] = b := ⟨_, rfl⟩
      have hok : okB b = true := by rw [← hbb]; exact hok0
      have HDB : Hid ((byt s).drop k = b :: (byt s).drop (k + 1)) := Lib.hid (by rw [HD.out, hbb])
      have hb256 := b.toNat_lt
      have HN := HU.out.next HDB.out hok
      have hcs := ok_cases b hok
      obtain ⟨m, hm⟩ : ∃ m, rstp n b = m := ⟨_, rfl⟩
      rw [hm] at HN
      have HN2 := Lib.hid HN
      unfold rstp at hm
      obtain ⟨c, hc⟩ : ∃ c, b.toNat = c := ⟨_, rfl⟩
      rw [hc] at hcs hb256 hm
      clear hok hok0 HDB HD HN
      rcases hcs with ⟨_, _, h, h'⟩ | ⟨_, _, h, h'⟩
      · rw [if_pos h'] at hm
        have q2 : decide ((c : Int) ≤ 57) = true := by simp; omega
        have q5 : IntKind.u8.wrap ((c : Int) - 48) = (c : Int) - 48 := by rw [IntKind.wrap_u8]; omega
        have q6 : (10 * (n : Int) + ((c : Int) - 48)).tmod 97 = (m : Int) := by rw [Int.tmod_eq_emod_of_nonneg (by omega)]; omega
        have q7 : (48 : Int) ≤ (c : Int) := by omega
        have q8 : (c : Int) ≤ 57 := by omega
        clear hm h h' hb256
        go_wp2_with fail
        go_round
        case rel => exact ⟨m, k + 1, by omega, rfl, by go_num, HN2.out⟩
        case measure => simp [RowKit.intOf]; omega
      · rw [if_neg (by omega)] at hm
        have q2 : decide ((c : Int) ≤ 57) = false := by simp; omega
        have q9 : ¬ (c : Int) ≤ 57 := by omega
        have q5 : IntKind.u8.wrap ((c : Int) - 65) = (c : Int) - 65 := by rw [IntKind.wrap_u8]; omega
        have q6 : (100 * (n : Int) + ((c : Int) - 65) + 10).tmod 97 = (m : Int) := by rw [Int.tmod_eq_emod_of_nonneg (by omega)]; omega
        have q7 : (65 : Int) ≤ (c : Int) := by omega
        have q8 : (c : Int) ≤ 90 := by omega
        clear hm h h' hb256
        go_wp2_with fail
        go_round
        case rel => exact ⟨m, k + 1, by omega, rfl, by go_num, HN2.out⟩
        case measure => simp [RowKit.intOf]; omega
    · have he : k = s.size := by omega
      subst he
      obtain ⟨_, z3⟩ := HU.out.stop (drop_nil' s)
      have HX : Hid (n = R) := Lib.hid (by rw [← HR.out, z3])
      clear z3
      go_wp2_with fail
      go_ret
      exact ⟨by rw [HX.out]; rfl, rfl⟩

set_option maxRecDepth 100000 in
theorem rmod (s : ByteArray) (w : World) :
    Calls Try.prog 22 #[.string s] w fun e w' => e = .returned (.tuple #[.int .i64 ((mV (byt s) : Nat) : Int), .int .i64 (mE (byt s))]) ∧ w = w' := by
  have hlen := byt_len s
  by_cases hb : s.size < 1 ∨ 48 < s.size
  · obtain ⟨z1, z2⟩ := mE_big (byt s) (by omega)
    rw [z1, z2]
    rcases hb with hb | hb
    · have d1 : decide ((s.size : Int) < 1) = true := by simp; omega
      have d2 : (s.size : Int) < 1 := by omega
      clear z1 z2 hlen hb
      go_enter Try.func22, Try.ntmps22
      go_wp2_with fail
      go_ret2
      exact ⟨rfl, rfl⟩
    · have d1 : decide ((s.size : Int) < 1) = false := by simp; omega
      have d2 : decide ((48 : Int) < (s.size : Int)) = true := by simp; omega
      have d3 : (48 : Int) < (s.size : Int) := by omega
      clear z1 z2 hlen hb
      go_enter Try.func22, Try.ntmps22
      go_wp2_with fail
      go_ret2
      exact ⟨rfl, rfl⟩
  · obtain ⟨HBad, HGood⟩ := mE_mid (byt s) (by omega)
    have P0 := fun W => rplain s (by omega) W
    have d1 : decide ((s.size : Int) < 1) = false := by simp; omega
    have d2 : decide ((48 : Int) < (s.size : Int)) = false := by simp; omega
    have hs48 : s.size ≤ 48 := by omega
    cases hp : pln (byt s)
    · obtain ⟨z1, z2⟩ := HBad hp
      rw [z1, z2]
      rw [hp] at P0
      have P := Lib.hid P0
      clear z1 z2 P0 HBad HGood hlen hb hp
      go_enter Try.func22, Try.ntmps22
      go_wp2_with fail
      refine (P.out _).mono ?_
      rintro e w1 ⟨rfl, rfl⟩
      go_wp2_with fail
      go_ret2
      exact ⟨rfl, rfl⟩
    · obtain ⟨z1, z2⟩ := HGood hp
      have Q0 := fun W => rrest s (by omega) hp W
      rw [z1, z2]
      rw [hp] at P0
      obtain ⟨r, hr⟩ : ∃ r, rst (byt s) = r := ⟨_, rfl⟩
      rw [hr] at Q0 ⊢
      have P := Lib.hid P0
      have Q := Lib.hid Q0
      clear z1 z2 P0 Q0 HBad HGood hlen hb hp hr
      go_enter Try.func22, Try.ntmps22
      go_wp2_with fail
      refine (P.out _).mono ?_
      rintro e w1 ⟨rfl, rfl⟩
      go_wp2_with fail
      refine (Q.out _).mono ?_
      rintro e w1 ⟨rfl, rfl⟩
      go_wp2_with fail
      go_ret2
      exact ⟨rfl, rfl⟩

theorem rletter (b : UInt8) (w : World) :
    Calls Try.prog 28 #[.int .u8 (b.toNat : Int)] w fun e w' => e = .returned (.bool (ltB b)) ∧ w = w' := by
  obtain ⟨R, hR⟩ : ∃ R, ltB b = R := ⟨_, rfl⟩
  rw [hR]
  unfold ltB at hR
  obtain ⟨c, hc⟩ : ∃ c, b.toNat = c := ⟨_, rfl⟩
  rw [hc] at hR ⊢
  clear hc
  by_cases h1 : 65 ≤ c
  · have d1 : decide ((65 : Int) ≤ (c : Int)) = true := by simp; omega
    by_cases h2 : c ≤ 90
    · have d2 : decide ((c : Int) ≤ 90) = true := by simp; omega
      have HX : Hid (R = true) := Lib.hid (by rw [← hR]; simp; omega)
      clear hR h1 h2
      go_enter Try.func28, Try.ntmps28
      go_wp2_with fail
      go_ret
      exact ⟨by rw [HX.out]; rfl, rfl⟩
    · have d2 : decide ((c : Int) ≤ 90) = false := by simp; omega
      have HX : Hid (R = false) := Lib.hid (by rw [← hR]; simp; omega)
      clear hR h1 h2
      go_enter Try.func28, Try.ntmps28
      go_wp2_with fail
      go_ret
      exact ⟨by rw [HX.out]; rfl, rfl⟩
  · have d1 : decide ((65 : Int) ≤ (c : Int)) = false := by simp; omega
    have HX : Hid (R = false) := Lib.hid (by rw [← hR]; simp; omega)
    clear hR h1
    go_enter Try.func28, Try.ntmps28
    go_wp2_with fail
    go_ret
    exact ⟨by rw [HX.out]; rfl, rfl⟩
end Go.Proofs.Ytamnpgcfgjlbeaa
