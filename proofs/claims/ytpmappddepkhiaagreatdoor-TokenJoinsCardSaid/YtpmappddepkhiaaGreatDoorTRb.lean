/-
  Tokens: a contract of the document's own mark.
-/
import Derived.Test.YtpmappddepkhiaaGreatDoorTRa
namespace Go.Proofs.YtpmappddepkhiaaGreatDoor
open Go Go.RowKit Go.Lib WM TM

theorem byte_eq (c d : UInt8) : ((c.toNat : Int) == (d.toNat : Int)) = decide (c = d) := by
  rw [Bool.eq_iff_iff, beq_iff_eq, decide_eq_true_eq, ← UInt8.toNat_inj]
  omega
theorem drop_at {s : ByteArray} {a : Nat} (h : a < s.size) : (byt s).drop a = s[a] :: (byt s).drop (a + 1) := by
  rw [byt_get s a h]
  exact List.drop_eq_getElem_cons _
theorem head_drop {s : ByteArray} {a : Nat} (h : a < s.size) : ((byt s).drop a).head? = some s[a] := by
  rw [drop_at h]; rfl
theorem take_g0 (l : List UInt8) (k : Nat) (h : k < l.length) : l.take (k + 1) = l.take k ++ [l.getD k 0] := by
  rw [List.take_succ_eq_append_getElem h]; simp [List.getD, h]
theorem mark_two {s : ByteArray} {a : Nat} (h : a < s.size) (h1 : a + 1 < s.size) (h2 : s[a + 1] = 61) (h3 : s[a] = 61 ∨ s[a] = 33 ∨ s[a] = 60) : mrk ((byt s).drop a) = 2 := by
  rw [drop_at h, mrk_cons, if_pos ⟨by rw [head_drop h1, h2], h3⟩]
theorem mark_one {s : ByteArray} {a : Nat} (h : a < s.size) (hn : ¬ (∃ h1 : a + 1 < s.size, s[a + 1] = 61 ∧ (s[a] = 61 ∨ s[a] = 33 ∨ s[a] = 60))) : mrk ((byt s).drop a) = if one.contains s[a] then 1 else 0 := by
  rw [drop_at h, mrk_cons, if_neg]
  rintro ⟨h1, h2⟩
  by_cases hb : a + 1 < s.size
  · rw [head_drop hb] at h1
    exact hn ⟨hb, Option.some.inj h1, h2⟩
  · rw [List.drop_eq_nil_of_le (by rw [byt_len]; omega)] at h1
    exact absurd h1 (by simp)

set_option maxRecDepth 100000 in
set_option maxHeartbeats 8000000 in
theorem rmark (s : ByteArray) (a : Nat) (ha : a < s.size) (hs : s.size ≤ 10000) (w : World) :
    Calls Tryz.prog 44 #[.string s, .int .i64 (a : Int)] w fun e w' => e = .returned (.int .i64 ((mrk ((byt s).drop a) : Nat) : Int)) ∧ Below w.heap.size w w' := by
  have haz : (a : Int) < (s.size : Int) := by omega
  obtain ⟨M, hM⟩ : ∃ M, mrk ((byt s).drop a) = M := ⟨_, rfl⟩
  have M2 : Hid (∀ h1 : a + 1 < s.size, s[a + 1] = 61 → (s[a] = 61 ∨ s[a] = 33 ∨ s[a] = 60) → M = 2) := Lib.hid (fun h1 h2 h3 => by rw [← hM]; exact mark_two ha h1 h2 h3)
  have M1 : Hid (¬ (∃ h1 : a + 1 < s.size, s[a + 1] = 61 ∧ (s[a] = 61 ∨ s[a] = 33 ∨ s[a] = 60)) → M = if one.contains s[a] then 1 else 0) := Lib.hid (fun h => by rw [← hM]; exact mark_one ha h)
  rw [hM]
  obtain ⟨S, hS⟩ : ∃ S : ByteArray, S = ⟨#[123, 125, 40, 41, 44, 59, 58, 36, 43, 45, 42, 47, 60]⟩ := ⟨_, rfl⟩
  have hSz : S.size = 13 := by rw [hS]; rfl
  have HSK : Hid (∀ k (h : k < S.size), S[k] = one.getD k 0) := Lib.hid (by
    subst hS
    intro k h
    have h13 : k < 13 := h
    have key : ∀ k : Fin 13, (⟨#[123, 125, 40, 41, 44, 59, 58, 36, 43, 45, 42, 47, 60]⟩ : ByteArray)[k.val]'k.isLt = one.getD k.val 0 := by decide
    exact key ⟨k, h13⟩)
  have HS := Lib.hid hS
  have n61 : ∀ (c : UInt8), (c.toNat : Int) = 61 → c = 61 := fun c h => (u8_int c 61 (by decide)).1 h
  have n33 : ∀ (c : UInt8), (c.toNat : Int) = 33 → c = 33 := fun c h => (u8_int c 33 (by decide)).1 h
  have n60 : ∀ (c : UInt8), (c.toNat : Int) = 60 → c = 60 := fun c h => (u8_int c 60 (by decide)).1 h
  have m61 : ∀ (c : UInt8), c = 61 → (c.toNat : Int) = 61 := fun c h => (u8_int c 61 (by decide)).2 h
  have m33 : ∀ (c : UInt8), c = 33 → (c.toNat : Int) = 33 := fun c h => (u8_int c 33 (by decide)).2 h
  have m60 : ∀ (c : UInt8), c = 60 → (c.toNat : Int) = 60 := fun c h => (u8_int c 60 (by decide)).2 h
  have HN := Lib.hid (And.intro n61 (And.intro n33 n60))
  have HMM := Lib.hid (And.intro m61 (And.intro m33 m60))
  clear hM hS n61 n33 n60 m61 m33 m60
  by_cases hb : a + 1 < s.size
  · have hbz : (a : Int) + 1 < (s.size : Int) := by omega
    have hbn : ((a : Int) + 1).toNat = a + 1 := by omega
    cases h61 : ((s[a + 1].toNat : Int) == 61)
    · have HM1 := Lib.hid (M1.out (fun ⟨_, h2, _⟩ => by rw [HMM.out.1 _ h2] at h61; exact absurd h61 (by decide)))
      clear M1 M2
      go_enter Tryz.func44, Tryz.ntmps44
      go_wp2_with fail
      rw [← HS.out]
      go_loopw [6] (fun i wr => ∃ (k z : Nat), k ≤ 13 ∧ i = .int .i64 k ∧ (one.take k).contains s[a] = false ∧ wr = w.drewN z) (fun i _ => 13 - (RowKit.intOf i).toNat)
      case atStart => exact ⟨0, 0, by omega, rfl, rfl, rfl⟩
      case round =>
        obtain ⟨k, z, hk, rfl, hA, rfl⟩ := hrel
        have HA := Lib.hid hA
        clear hA
        by_cases hlt : k < 13
        · have hkS : k < S.size := by omega
          have hkz : (k : Int) < 13 := by omega
          have hkz2 : (k : Int) < (S.size : Int) := by omega
          have hgk := HSK.out k hkS
          have hbe := byte_eq S[k] s[a]
          have hl : one.length = 13 := rfl
          have ht : one.take (k + 1) = one.take k ++ [one.getD k 0] := take_g0 one k (by omega)
          have hm : one.getD k 0 ∈ one := by
            have e : one.getD k 0 = one[k]'(by omega) := by simp [List.getD, hl, hlt]
            rw [e]; exact List.getElem_mem _
          rw [← hgk] at ht hm
          cases hq : ((S[k].toNat : Int) == (s[a].toNat : Int))
          · rw [hq] at hbe
            have hne : S[k] ≠ s[a] := of_decide_eq_false hbe.symm
            have HA2 : Hid ((one.take (k + 1)).contains s[a] = false) := Lib.hid (by
              have h1 := HA.out
              rw [ht]
              rw [List.contains_eq_mem, decide_eq_false_iff_not] at h1 ⊢
              rw [List.mem_append, List.mem_singleton]
              rintro (h | h)
              · exact h1 h
              · exact hne h.symm)
            clear hgk hbe hl ht hm hne
            go_wp2_with fail
            go_quiet (fail)
            go_wp2_with fail
            go_roundw
            case rel => exact ⟨k + 1, _, by omega, by go_num, HA2.out, by first | rfl | exact World.drewN_drewN _ _ _⟩
            case measure => simp [RowKit.intOf]; omega
          · rw [hq] at hbe
            have he : S[k] = s[a] := of_decide_eq_true hbe.symm
            have HQ1 : Hid (M = 1) := Lib.hid (by
              rw [HM1.out, if_pos]
              rw [List.contains_eq_mem, decide_eq_true_eq, ← he]; exact hm)
            clear hgk hbe hl ht hm he
            go_wp2_with fail
            go_quiet (fail)
            go_wp2_with fail
            go_ret
            exact ⟨by rw [HQ1.out]; rfl, by first | exact bdn (bref _) _ | exact bdn (bdn (bref _) _) _⟩
        · have he : k = 13 := by omega
          subst he
          have HQ0 : Hid (M = 0) := Lib.hid (by
            rw [HM1.out, if_neg]
            have := HA.out
            rw [List.take_of_length_le (by show 13 ≤ 13; omega)] at this
            rw [this]; decide)
          go_wp2_with fail
          go_ret
          exact ⟨by rw [HQ0.out]; rfl, bdn (bref _) _⟩
    · have HQ := Lib.hid (HN.out.1 _ (beq_iff_eq.1 h61))
      cases c61 : ((s[a].toNat : Int) == 61)
      · cases c33 : ((s[a].toNat : Int) == 33)
        · cases c60 : ((s[a].toNat : Int) == 60)
          · have HM1 := Lib.hid (M1.out (fun ⟨_, _, h3⟩ => by
              rcases h3 with h | h | h
              · rw [HMM.out.1 _ h] at c61; exact absurd c61 (by decide)
              · rw [HMM.out.2.1 _ h] at c33; exact absurd c33 (by decide)
              · rw [HMM.out.2.2 _ h] at c60; exact absurd c60 (by decide)))
            clear M1 M2
            go_enter Tryz.func44, Tryz.ntmps44
            go_wp2_with fail
            rw [← HS.out]
            go_loopw [6] (fun i wr => ∃ (k z : Nat), k ≤ 13 ∧ i = .int .i64 k ∧ (one.take k).contains s[a] = false ∧ wr = w.drewN z) (fun i _ => 13 - (RowKit.intOf i).toNat)
            case atStart => exact ⟨0, 0, by omega, rfl, rfl, rfl⟩
            case round =>
              obtain ⟨k, z, hk, rfl, hA, rfl⟩ := hrel
              have HA := Lib.hid hA
              clear hA
              by_cases hlt : k < 13
              · have hkS : k < S.size := by omega
                have hkz : (k : Int) < 13 := by omega
                have hkz2 : (k : Int) < (S.size : Int) := by omega
                have hgk := HSK.out k hkS
                have hbe := byte_eq S[k] s[a]
                have hl : one.length = 13 := rfl
                have ht : one.take (k + 1) = one.take k ++ [one.getD k 0] := take_g0 one k (by omega)
                have hm : one.getD k 0 ∈ one := by
                  have e : one.getD k 0 = one[k]'(by omega) := by simp [List.getD, hl, hlt]
                  rw [e]; exact List.getElem_mem _
                rw [← hgk] at ht hm
                cases hq : ((S[k].toNat : Int) == (s[a].toNat : Int))
                · rw [hq] at hbe
                  have hne : S[k] ≠ s[a] := of_decide_eq_false hbe.symm
                  have HA2 : Hid ((one.take (k + 1)).contains s[a] = false) := Lib.hid (by
                    have h1 := HA.out
                    rw [ht]
                    rw [List.contains_eq_mem, decide_eq_false_iff_not] at h1 ⊢
                    rw [List.mem_append, List.mem_singleton]
                    rintro (h | h)
                    · exact h1 h
                    · exact hne h.symm)
                  clear hgk hbe hl ht hm hne
                  go_wp2_with fail
                  go_quiet (fail)
                  go_wp2_with fail
                  go_roundw
                  case rel => exact ⟨k + 1, _, by omega, by go_num, HA2.out, by first | rfl | exact World.drewN_drewN _ _ _⟩
                  case measure => simp [RowKit.intOf]; omega
                · rw [hq] at hbe
                  have he : S[k] = s[a] := of_decide_eq_true hbe.symm
                  have HQ1 : Hid (M = 1) := Lib.hid (by
                    rw [HM1.out, if_pos]
                    rw [List.contains_eq_mem, decide_eq_true_eq, ← he]; exact hm)
                  clear hgk hbe hl ht hm he
                  go_wp2_with fail
                  go_quiet (fail)
                  go_wp2_with fail
                  go_ret
                  exact ⟨by rw [HQ1.out]; rfl, by first | exact bdn (bref _) _ | exact bdn (bdn (bref _) _) _⟩
              · have he : k = 13 := by omega
                subst he
                have HQ0 : Hid (M = 0) := Lib.hid (by
                  rw [HM1.out, if_neg]
                  have := HA.out
                  rw [List.take_of_length_le (by show 13 ≤ 13; omega)] at this
                  rw [this]; decide)
                go_wp2_with fail
                go_ret
                exact ⟨by rw [HQ0.out]; rfl, bdn (bref _) _⟩
          · have HM2 := Lib.hid (M2.out hb HQ.out (Or.inr (Or.inr (HN.out.2.2 _ (beq_iff_eq.1 c60)))))
            clear M1 M2
            go_enter Tryz.func44, Tryz.ntmps44
            go_wp2_with fail
            go_ret
            exact ⟨by rw [HM2.out]; rfl, bref _⟩
        · have HM2 := Lib.hid (M2.out hb HQ.out (Or.inr (Or.inl (HN.out.2.1 _ (beq_iff_eq.1 c33)))))
          clear M1 M2
          go_enter Tryz.func44, Tryz.ntmps44
          go_wp2_with fail
          go_ret
          exact ⟨by rw [HM2.out]; rfl, bref _⟩
      · have HM2 := Lib.hid (M2.out hb HQ.out (Or.inl (HN.out.1 _ (beq_iff_eq.1 c61))))
        clear M1 M2
        go_enter Tryz.func44, Tryz.ntmps44
        go_wp2_with fail
        go_ret
        exact ⟨by rw [HM2.out]; rfl, bref _⟩
  · have hbz : ¬ (a : Int) + 1 < (s.size : Int) := by omega
    have HM1 := Lib.hid (M1.out (fun ⟨h, _⟩ => hb h))
    clear M1 M2
    go_enter Tryz.func44, Tryz.ntmps44
    go_wp2_with fail
    rw [← HS.out]
    go_loopw [6] (fun i wr => ∃ (k z : Nat), k ≤ 13 ∧ i = .int .i64 k ∧ (one.take k).contains s[a] = false ∧ wr = w.drewN z) (fun i _ => 13 - (RowKit.intOf i).toNat)
    case atStart => exact ⟨0, 0, by omega, rfl, rfl, rfl⟩
    case round =>
      obtain ⟨k, z, hk, rfl, hA, rfl⟩ := hrel
      have HA := Lib.hid hA
      clear hA
      by_cases hlt : k < 13
      · have hkS : k < S.size := by omega
        have hkz : (k : Int) < 13 := by omega
        have hkz2 : (k : Int) < (S.size : Int) := by omega
        have hgk := HSK.out k hkS
        have hbe := byte_eq S[k] s[a]
        have hl : one.length = 13 := rfl
        have ht : one.take (k + 1) = one.take k ++ [one.getD k 0] := take_g0 one k (by omega)
        have hm : one.getD k 0 ∈ one := by
          have e : one.getD k 0 = one[k]'(by omega) := by simp [List.getD, hl, hlt]
          rw [e]; exact List.getElem_mem _
        rw [← hgk] at ht hm
        cases hq : ((S[k].toNat : Int) == (s[a].toNat : Int))
        · rw [hq] at hbe
          have hne : S[k] ≠ s[a] := of_decide_eq_false hbe.symm
          have HA2 : Hid ((one.take (k + 1)).contains s[a] = false) := Lib.hid (by
            have h1 := HA.out
            rw [ht]
            rw [List.contains_eq_mem, decide_eq_false_iff_not] at h1 ⊢
            rw [List.mem_append, List.mem_singleton]
            rintro (h | h)
            · exact h1 h
            · exact hne h.symm)
          clear hgk hbe hl ht hm hne
          go_wp2_with fail
          go_quiet (fail)
          go_wp2_with fail
          go_roundw
          case rel => exact ⟨k + 1, _, by omega, by go_num, HA2.out, by first | rfl | exact World.drewN_drewN _ _ _⟩
          case measure => simp [RowKit.intOf]; omega
        · rw [hq] at hbe
          have he : S[k] = s[a] := of_decide_eq_true hbe.symm
          have HQ1 : Hid (M = 1) := Lib.hid (by
            rw [HM1.out, if_pos]
            rw [List.contains_eq_mem, decide_eq_true_eq, ← he]; exact hm)
          clear hgk hbe hl ht hm he
          go_wp2_with fail
          go_quiet (fail)
          go_wp2_with fail
          go_ret
          exact ⟨by rw [HQ1.out]; rfl, by first | exact bdn (bref _) _ | exact bdn (bdn (bref _) _) _⟩
      · have he : k = 13 := by omega
        subst he
        have HQ0 : Hid (M = 0) := Lib.hid (by
          rw [HM1.out, if_neg]
          have := HA.out
          rw [List.take_of_length_le (by show 13 ≤ 13; omega)] at this
          rw [this]; decide)
        go_wp2_with fail
        go_ret
        exact ⟨by rw [HQ0.out]; rfl, bdn (bref _) _⟩
end Go.Proofs.YtpmappddepkhiaaGreatDoor
