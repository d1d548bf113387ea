/-
  Check digits: contracts of package digest's Mod97, and of the document's own Plain, rest and Mod97.
-/
import Derived.Test.YtamnpgcfgjlbeaaGE
namespace Go.Proofs.Ytamnpgcfgjlbeaa
open Go Go.RowKit Go.Lib GM

/-- Where a reading stands behind k characters. -/
structure ReAt (l : List UInt8) (n k : Nat) : Prop where
  lt : n < 97
  ok : pln (l.drop k) = pln l
  fold : rfold n (l.drop k) = rst l
theorem ReAt.start (l : List UInt8) : ReAt l 0 0 := ⟨by decide, rfl, rfl⟩
theorem ReAt.bad {l : List UInt8} {n k : Nat} (h : ReAt l n k) {c : UInt8} {t : List UInt8} (hd : l.drop k = c :: t) (hc : okB c = false) : pln l = false := by
  rw [← h.ok, hd]
  simp [pln, hc]
theorem ReAt.next {l : List UInt8} {n k : Nat} (h : ReAt l n k) {c : UInt8} (hd : l.drop k = c :: l.drop (k + 1)) (hc : okB c = true) : ReAt l (rstp n c) (k + 1) := by
  refine ⟨rstp_lt n c, ?_, ?_⟩
  · rw [← h.ok, hd]
    simp [pln, hc]
  · rw [← h.fold, hd]; rfl
theorem ReAt.stop {l : List UInt8} {n k : Nat} (h : ReAt l n k) (hk : l.drop k = []) : pln l = true ∧ n = rst l := by
  have h1 := h.ok
  have h2 := h.fold
  rw [hk] at h1 h2
  exact ⟨h1.symm, h2⟩
theorem ok_not (c : UInt8) (h : okB c = false) : c.toNat < 48 ∨ (57 < c.toNat ∧ c.toNat < 65) ∨ 90 < c.toNat := by
  unfold okB dgB ltB at h
  simp only [Bool.or_eq_false_iff, decide_eq_false_iff_not] at h
  omega
theorem mE_big (l : List UInt8) (h : l.length < 1 ∨ 48 < l.length) : mE l = 5 ∧ mV l = 0 := by
  have : mE l = 5 := by unfold mE; rw [if_pos h]
  refine ⟨this, ?_⟩
  unfold mV; rw [this]; rfl
theorem mE_mid (l : List UInt8) (h : ¬ (l.length < 1 ∨ 48 < l.length)) : (pln l = false → mE l = 2 ∧ mV l = 0) ∧ (pln l = true → mE l = 0 ∧ mV l = rst l) := by
  constructor
  · intro hp
    have : mE l = 2 := by unfold mE; rw [if_neg h, hp]; rfl
    refine ⟨this, ?_⟩
    unfold mV; rw [this]; rfl
  · intro hp
    have : mE l = 0 := by unfold mE; rw [if_neg h, hp]; rfl
    refine ⟨this, ?_⟩
    unfold mV; rw [this]; rfl

set_option maxRecDepth 100000 in
set_option maxHeartbeats 2000000 in
theorem mmod (s : ByteArray) (w : World) :
    Calls Try.prog 21 #[.string s] w fun e w' => e = .returned (.tuple #[.int .i64 ((mV (byt s) : Nat) : Int), .int .i64 (mE (byt s))]) ∧ w = w' := by
  have hlen := byt_len s
  by_cases hb : s.size < 1 ∨ 48 < s.size
  · obtain ⟨z1, z2⟩ := mE_big (byt s) (by omega)
    rw [z1, z2]
    rcases hb with hb | hb
    · have d1 : decide ((s.size : Int) < 1) = true := by simp; omega
      have d2 : (s.size : Int) < 1 := by omega
      clear z1 z2 hlen hb
      go_enter Try.func21, Try.ntmps21
      go_wp2_with fail
      go_ret2
      exact ⟨rfl, rfl⟩
    · have d1 : decide ((s.size : Int) < 1) = false := by simp; omega
      have d2 : decide ((48 : Int) < (s.size : Int)) = true := by simp; omega
      have d3 : (48 : Int) < (s.size : Int) := by omega
      clear z1 z2 hlen hb
      go_enter Try.func21, Try.ntmps21
      go_wp2_with fail
      go_ret2
      exact ⟨rfl, rfl⟩
  · obtain ⟨HBad, HGood⟩ := mE_mid (byt s) (by omega)
    have HBad := Lib.hid HBad
    have HGood := Lib.hid HGood
    obtain ⟨E, hE⟩ : ∃ E, mE (byt s) = E := ⟨_, rfl⟩
    obtain ⟨V, hV⟩ : ∃ V, mV (byt s) = V := ⟨_, rfl⟩
    rw [hE, hV]
    have HE := Lib.hid hE
    have HV := Lib.hid hV
    have d1 : decide ((s.size : Int) < 1) = false := by simp; omega
    have d2 : decide ((48 : Int) < (s.size : Int)) = false := by simp; omega
    have hs48 : s.size ≤ 48 := by omega
    clear hE hV hlen hb
    go_enter Try.func21, Try.ntmps21
    go_wp2_with fail
    go_loop [4, 6, 17, 23, 37] (fun x _ i _ _ => ∃ (n k : Nat), k ≤ s.size ∧ x = .int .i64 n ∧ i = .int .i64 k ∧ ReAt (byt s) n k) (fun _ _ i _ _ => s.size - (RowKit.intOf i).toNat)
    case atStart => exact ⟨0, 0, by omega, rfl, rfl, ReAt.start _⟩
    case round =>
      obtain ⟨n, k, hk, rfl, rfl, hU⟩ := hrel
      have HU := Lib.hid hU
      have hn := hU.lt
      clear hU
      by_cases hlt : k < s.size
      · have hkz : (k : Int) < (s.size : Int) := by omega
        have HD := Lib.hid (drop_cons' s k hlt)
        obtain ⟨b, hbb⟩ : ∃ b, s[k] = b := ⟨_, rfl⟩
        have HDB : Hid ((byt s).drop k = b :: (byt s).drop (k + 1)) := Lib.hid (by rw [HD.out, hbb])
        have hb256 := b.toNat_lt
        cases hok : okB b
        · obtain ⟨z1, z2⟩ := HBad.out (HU.out.bad HDB.out hok)
          have HX : Hid (E = 2 ∧ V = 0) := Lib.hid ⟨by rw [← HE.out]; exact z1, by rw [← HV.out]; exact z2⟩
          have hcs := ok_not b hok
          obtain ⟨c, hc⟩ : ∃ c, b.toNat = c := ⟨_, rfl⟩
          rw [hc] at hcs hb256
          clear z1 z2 hok HDB HD
          rcases hcs with h | ⟨h, h'⟩ | h
          · have q1 : decide ((48 : Int) ≤ (c : Int)) = false := by simp; omega
            have q3 : decide ((65 : Int) ≤ (c : Int)) = false := by simp; omega
            go_wp2_with fail
            go_ret2
            exact ⟨by rw [HX.out.1, HX.out.2]; rfl, rfl⟩
          · have q1 : decide ((48 : Int) ≤ (c : Int)) = true := by simp; omega
            have q2 : decide ((c : Int) ≤ 57) = false := by simp; omega
            have q3 : decide ((65 : Int) ≤ (c : Int)) = false := by simp; omega
            go_wp2_with fail
            go_ret2
            exact ⟨by rw [HX.out.1, HX.out.2]; rfl, rfl⟩
          · have q1 : decide ((48 : Int) ≤ (c : Int)) = true := by simp; omega
            have q2 : decide ((c : Int) ≤ 57) = false := by simp; omega
            have q3 : decide ((65 : Int) ≤ (c : Int)) = true := by simp; omega
            have q4 : decide ((c : Int) ≤ 90) = false := by simp; omega
            go_wp2_with fail
            go_ret2
            exact ⟨by rw [HX.out.1, HX.out.2]; rfl, rfl⟩
        · have HN := HU.out.next HDB.out hok
          have hcs := ok_cases b hok
          obtain ⟨m, hm⟩ : ∃ m, rstp n b = m := ⟨_, rfl⟩
          rw [hm] at HN
          have HN2 := Lib.hid HN
          unfold rstp at hm
          obtain ⟨c, hc⟩ : ∃ c, b.toNat = c := ⟨_, rfl⟩
          rw [hc] at hcs hb256 hm
          clear hok HDB HD HN
          rcases hcs with ⟨_, _, h, h'⟩ | ⟨_, _, h, h'⟩
          · rw [if_pos h'] at hm
            have q1 : decide ((48 : Int) ≤ (c : Int)) = true := by simp; omega
            have q2 : decide ((c : Int) ≤ 57) = true := by simp; omega
            have q5 : IntKind.u8.wrap ((c : Int) - 48) = (c : Int) - 48 := by rw [IntKind.wrap_u8]; omega
            have q6 : ((n : Int) * 10 + ((c : Int) - 48)).tmod 97 = (m : Int) := by rw [Int.tmod_eq_emod_of_nonneg (by omega)]; omega
            have q7 : (48 : Int) ≤ (c : Int) := by omega
            have q8 : (c : Int) ≤ 57 := by omega
            clear hm h h' hb256
            go_wp2_with fail
            go_round
            case rel => exact ⟨m, k + 1, by omega, rfl, by go_num, HN2.out⟩
            case measure => simp [RowKit.intOf]; omega
          · rw [if_neg (by omega)] at hm
            have q1 : decide ((48 : Int) ≤ (c : Int)) = true := by simp; omega
            have q2 : decide ((c : Int) ≤ 57) = false := by simp; omega
            have q3 : decide ((65 : Int) ≤ (c : Int)) = true := by simp; omega
            have q4 : decide ((c : Int) ≤ 90) = true := by simp; omega
            have q5 : IntKind.u8.wrap ((c : Int) - 65) = (c : Int) - 65 := by rw [IntKind.wrap_u8]; omega
            have q6 : ((n : Int) * 100 + ((c : Int) - 65) + 10).tmod 97 = (m : Int) := by rw [Int.tmod_eq_emod_of_nonneg (by omega)]; omega
            have q7 : (65 : Int) ≤ (c : Int) := by omega
            have q8 : (c : Int) ≤ 90 := by omega
            clear hm h h' hb256
            go_wp2_with fail
            go_round
            case rel => exact ⟨m, k + 1, by omega, rfl, by go_num, HN2.out⟩
            case measure => simp [RowKit.intOf]; omega
      · have he : k = s.size := by omega
        subst he
        obtain ⟨z0, z3⟩ := HU.out.stop (drop_nil' s)
        obtain ⟨z1, z2⟩ := HGood.out z0
        have HX : Hid (E = 0 ∧ V = n) := Lib.hid ⟨by rw [← HE.out]; exact z1, by rw [← HV.out, z3]; exact z2⟩
        clear z0 z1 z2 z3
        go_wp2_with fail
        go_ret2
        exact ⟨by rw [HX.out.1, HX.out.2]; rfl, rfl⟩
end Go.Proofs.Ytamnpgcfgjlbeaa
