/-
  The contract of the document's own Decimal, with a sign in front.
-/
import Derived.Test.YtfapcllhcbedlaaDoorRefDec
namespace Go.Proofs.YtfapcllhcbedlaaDoor
open Go Go.RowKit Go.Lib WM

theorem bytes_tail (s : ByteArray) (c : UInt8) (t : List UInt8) (hl : s.data.toList = c :: t) : (s.extract 1 s.size).data.toList = t ∧ (s.extract 1 s.size).size = t.length ∧ s.size = t.length + 1 := by
  have hlen : s.data.toList.length = s.size := by rw [Array.length_toList]; rfl
  have h1 : s.size = t.length + 1 := by rw [← hlen, hl]; rfl
  have h2 : (s.extract 1 s.size).data.toList = t := by
    rw [Lib.extract_data, hl, List.drop_succ_cons, List.drop_zero, List.take_of_length_le (by omega)]
  refine ⟨h2, ?_, h1⟩
  have : (s.extract 1 s.size).data.toList.length = (s.extract 1 s.size).size := by rw [Array.length_toList]; rfl
  rw [← this, h2]
theorem bytes_one (s : ByteArray) (c d : UInt8) (u : List UInt8) (hl : s.data.toList = c :: d :: u) (h : 1 < s.size) : s[1] = d := by
  obtain ⟨⟨l⟩⟩ := s
  have hl' : l = c :: d :: u := hl
  subst hl'
  rfl

set_option maxRecDepth 100000 in
set_option maxHeartbeats 400000 in
theorem rdec_any : ∀ (n : Nat) (s : ByteArray), s.size = n → s.size ≤ 1000000 → ∀ (w : World),
    Calls Tryd.prog 73 #[.string s] w fun e w' => e = .returned (.bool (decB s.data.toList)) ∧ Below w.heap.size w w' := by
  intro n
  induction n using Nat.strongRecOn with
  | ind n ih =>
    intro s hn hs w
    cases hl : s.data.toList with
    | nil =>
      have he : s = ⟨#[]⟩ := by
        apply ByteArray.ext
        exact Array.toList_eq_nil_iff.1 hl
      subst he
      clear ih hn hs hl
      go_enter Tryd.func73, Tryd.ntmps73
      go_wp2_with fail
      go_loop [3] (fun i => i = .int .i64 0) (fun _ => 0)
      case atStart => rfl
      case round =>
        subst hrel
        go_wp2
        go_ret
        exact ⟨rfl, bref _⟩
    | cons c t =>
      by_cases hc : c = 45
      · subst hc
        obtain ⟨t1, t2, t3⟩ := bytes_tail s 45 t hl
        have hpos : 0 < s.size := by omega
        obtain ⟨c', t', e1, e2, e3⟩ := bytes_head s hpos
        rw [hl] at e1
        injection e1 with e1 e1'
        subst e1 e1'
        have h1 : ((s[0].toNat : Int) == 45) = true := by rw [e2]; rfl
        have hp : (0 : Int) < (s.size : Int) := by omega
        have hp1 : (1 : Int) ≤ (s.size : Int) := by omega
        have hpn : decide (0 < s.size) = true := by simpa using hpos
        have IH := fun W => ih t.length (by omega) (s.extract 1 s.size) t2 (by omega) W
        simp only [t1] at IH
        have htl : s.toList = 45 :: t := by rw [Lib.toList_data]; exact hl
        have hD := decB_45 t
        by_cases h48 : t = [48]
        · have hz : (s.toList == [45, 48]) = true := by rw [htl, h48]; rfl
          have hz2 : (s.toList != [45, 48]) = false := by rw [htl, h48]; rfl
          have HD : Hid (decB (45 :: t) = false) := Lib.hid (by rw [hD, h48]; rfl)
          clear ih hn hl e2 e3 t1 t2 t3 IH htl hD h48
          go_enter Tryd.func73, Tryd.ntmps73
          go_wp2_with fail
          go_ret
          exact ⟨by rw [HD.out]; rfl, bref _⟩
        · have hz : (s.toList == [45, 48]) = false := by
            rw [htl, beq_eq_false_iff_ne]; intro h; injection h with _ h; exact h48 h
          have hz2 : (s.toList != [45, 48]) = true := by
            rw [htl, bne_iff_ne]; intro h; injection h with _ h; exact h48 h
          have hnt : (t != [48]) = true := by rw [bne_iff_ne]; exact h48
          rw [hnt, Bool.true_and] at hD
          cases hB : decB t
          · rw [hB] at hD
            simp only [hB] at IH
            have IH := Lib.hid IH
            have HD : Hid (decB (45 :: t) = false) := Lib.hid (by rw [hD]; rfl)
            clear ih hn hl e2 e3 t1 t2 t3 htl hD h48 hnt hB
            go_enter Tryd.func73, Tryd.ntmps73
            go_wp2_with fail
            refine (IH.out _).mono ?_
            rintro e w1 ⟨rfl, q1⟩
            go_wp2_with fail
            go_ret
            exact ⟨by rw [HD.out]; rfl, q1⟩
          · cases t with
            | nil => exact absurd hB (by decide)
            | cons d u =>
              have hp2 : 1 < s.size := by rw [t3]; simp
              have hp2' : (1 : Int) < (s.size : Int) := by omega
              have hd := bytes_one s 45 d u hl hp2
              rw [hB, Bool.true_and, List.headD_cons] at hD
              simp only [hB] at IH
              have IH := Lib.hid IH
              have hq : ((s[1].toNat : Int) != 45) = (d != 45) := by
                rw [hd, Bool.eq_iff_iff, bne_iff_ne, bne_iff_ne]
                constructor
                · intro h h'; apply h; rw [h']; rfl
                · intro h h'; apply h; exact UInt8.toNat_inj.1 (by rw [show (45 : UInt8).toNat = 45 from rfl]; omega)
              obtain ⟨B, hBB⟩ : ∃ B, (d != 45) = B := ⟨_, rfl⟩
              rw [hBB] at hq hD
              have HD : Hid (decB (45 :: d :: u) = B) := Lib.hid hD
              clear ih hn hl e2 e3 t1 t2 t3 htl hD h48 hnt hB hd hBB
              go_enter Tryd.func73, Tryd.ntmps73
              go_wp2_with fail
              refine (IH.out _).mono ?_
              rintro e w1 ⟨rfl, q1⟩
              go_wp2_with fail
              go_ret
              exact ⟨by rw [HD.out]; rfl, q1⟩
      · rw [← hl]
        exact rdec_plain s hs w c t hl hc
end Go.Proofs.YtfapcllhcbedlaaDoor
