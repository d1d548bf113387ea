/-
  Lists of numbers read: package wire's TakeInts, and the document's own.
-/
import Derived.Test.YtlgplhekiemeoaaDoorWF
namespace Go.Proofs.YtlgplhekiemeoaaDoor
open Go Go.RowKit Go.Lib WM

/-- A list of numbers and an error number come back. -/
def GotI (E : Int) (l : List Int) (w : World) (e : Ending) (w' : World) : Prop :=
  ∃ ao c, e = .returned (.tuple #[.slice ao l.length c, .int .i64 E]) ∧ IntsAt ao l w' ∧ Below w.heap.size w w'
theorem tk_bad {l : List UInt8} {m : Int} (h : (unp l).1 ≠ 0) : tkE l m = (unp l).1 ∧ tkV l m = [] := by
  unfold tkE tkV; rw [if_neg h, if_neg h]; exact ⟨rfl, rfl⟩
theorem tk_many {l : List UInt8} {m : Int} (h : (unp l).1 = 0) (h2 : m < (unp l).2.length) : tkE l m = 5 ∧ tkV l m = [] := by
  unfold tkE tkV; rw [if_pos h, if_pos h, if_pos h2, if_pos h2]; exact ⟨rfl, rfl⟩
theorem tk_go {l : List UInt8} {m : Int} (h : (unp l).1 = 0) (h2 : ¬ m < (unp l).2.length) : tkE l m = (tks (unp l).2).1 ∧ tkV l m = (tks (unp l).2).2 := by
  unfold tkE tkV; rw [if_pos h, if_pos h, if_neg h2, if_neg h2]; exact ⟨rfl, rfl⟩

set_option maxRecDepth 100000 in
set_option maxHeartbeats 4000000 in
theorem rtakeints (s : ByteArray) (most : Int) (hs : s.size ≤ 1000000) (hm : I64 most) (w : World) :
    Calls Tryd.prog 21 #[.string s, .int .i64 most] w (GotI (tkE (byt s) most) (tkV (byt s) most) w) := by
  obtain ⟨i0, hi, hz0, hz1, hz2⟩ := info_parts info3
  have U0 := runpack s hs w
  have US := unp_sizes _ (byt s) rfl
  have K1 := tk_bad (l := byt s) (m := most)
  have K2 := tk_many (l := byt s) (m := most)
  have K3 := tk_go (l := byt s) (m := most)
  rw [byt_len] at US
  obtain ⟨TE, hTE⟩ : ∃ x, tkE (byt s) most = x := ⟨_, rfl⟩
  obtain ⟨TV, hTV⟩ : ∃ x, tkV (byt s) most = x := ⟨_, rfl⟩
  rw [hTE, hTV] at K1 K2 K3 ⊢
  obtain ⟨⟨E, ts⟩, hq⟩ : ∃ q, unp (byt s) = q := ⟨_, rfl⟩
  rw [hq] at U0 US K1 K2 K3
  simp only at US K1 K2 K3
  obtain ⟨hm0, hm1⟩ := hm
  have HS := Lib.hid US.2
  obtain ⟨n, hn⟩ : ∃ n, ts.length = n := ⟨_, rfl⟩
  have hn1 : n ≤ 1000000 := by have := US.1; omega
  have HN := Lib.hid hn
  have HU := Lib.hid U0
  clear US hTE hTV hq U0
  by_cases hE0 : E = 0
  · subst hE0
    by_cases hmany : most < (n : Int)
    · have HR := Lib.hid (K2 rfl (by rw [hn]; exact hmany))
      clear K1 K2 K3 hn
      go_enter Tryd.func21, Tryd.ntmps21
      go_wp2_with fail
      refine (HU.out).mono ?_
      rintro e w1 ⟨ao, c, he, hT, hB⟩
      rw [HN.out] at he
      subst he
      have HB := Lib.hid hB
      clear hT hB
      go_wp2_with fail
      go_ret2
      obtain ⟨rfl, rfl⟩ := HR.out
      exact ⟨none, 0, rfl, IntsAt.nil _ _, HB.out⟩
    · have hK := K3 rfl (by rw [hn]; exact hmany)
      have C0 := contI_start ts
      obtain ⟨Q, hQ⟩ : ∃ Q, tks ts = Q := ⟨_, rfl⟩
      rw [hQ] at C0 hK
      have HK := Lib.hid hK
      have HC := Lib.hid C0
      clear K1 K2 K3 hn hK C0 hQ
      go_enter Tryd.func21, Tryd.ntmps21
      go_wp2_with fail
      refine (HU.out).mono ?_
      rintro e w1 ⟨ao, c, he, hT, hB⟩
      rw [HN.out] at he
      subst he
      have HB := Lib.hid hB
      have HT := Lib.hid hT
      clear hT hB
      go_wp2_with fail
      go_loopw [8, 9] (fun x i wr => ∃ (o : List Int) (k : Nat), k ≤ n ∧ o.length = k ∧ i = .int .i64 k ∧ wr.ownsRow w1.heap.size 3 1 x k (vals o) ∧ ContI Q o (ts.drop k) ∧ Below w1.heap.size w1 wr) (fun _ i _ => n - (RowKit.intOf i).toNat)
      case atStart => exact ⟨[], 0, by omega, rfl, rfl, World.ownsRow_nil _ _ _ _, HC.out, bref w1⟩
      case round =>
        obtain ⟨o, k, hk, hok, rfl, hO, hC, hB⟩ := hrel
        have HOK := Lib.hid hok
        have HO := Lib.hid hO
        have HR := Lib.hid hB
        have hsw := hB.size
        by_cases hlt : k < n
        · have hkz : (k : Int) < (n : Int) := by omega
          obtain ⟨b, off, rfl, hb, c0⟩ := (HT.out.keep hB) k (by rw [HN.out]; exact hlt)
          have hd := drop_g E0 ts k (by rw [HN.out]; exact hlt)
          have hsz := HS.out _ (getD_mem' E0 ts k (by rw [HN.out]; exact hlt))
          obtain ⟨t, ht⟩ : ∃ t, ts.getD k E0 = t := ⟨_, rfl⟩
          rw [ht] at c0 hd hsz
          rw [hd] at hC
          by_cases hc : tiE (byt t) = 0
          · have F0 := fun W => rtake t (by omega) W
            have hst := contI_step hC hc
            have hc' : tiE t.data.toList = 0 := hc
            rw [hc'] at F0
            obtain ⟨v, hv⟩ : ∃ v, tiV (byt t) = v := ⟨_, rfl⟩
            have hv' : tiV t.data.toList = v := hv
            rw [hv'] at F0
            rw [hv] at hst
            have HF := Lib.hid F0
            have HD := Lib.hid hst
            clear F0 hst hc hc' hv hv' hd hC hO hB hok ht
            go_wp2_with fail
            with_reducible refine (HF.out _).mono ?_
            rintro e w2 ⟨rfl, rfl⟩
            go_wp2_with (at_builtin; refine wpList_append_one (.int .i64 v) rfl rfl (.tmp 41) (.tmp 43) 36 rfl w1.heap.size i0 (.int .i64 0) 8 Tryd.underlying36 hi hz0 hz1 hz2 rfl _ _ _ rfl HO.out rfl rfl (by unfold maxLen; omega) (by omega) hsw ?_; intro v5 w5 ox gx)
            have ox2 : w5.ownsRow w1.heap.size 3 1 v5 (k + 1) (vals (o ++ [v])) := by simpa [vals] using ox
            have HO2 := Lib.hid ox2
            have HB2 := Lib.hid (HR.out.trans gx)
            clear ox gx ox2
            go_wp2_with fail
            go_roundw
            case rel => exact ⟨o ++ [v], k + 1, hlt, by rw [List.length_append, HOK.out]; rfl, by go_num, HO2.out, HD.out, HB2.out⟩
            case measure => simp [RowKit.intOf]; omega
          · have F0 := fun W => rtake t (by omega) W
            have hst := contI_bad hC hc
            have hv' : tiV t.data.toList = 0 := by unfold tiV; exact if_neg hc
            rw [hv'] at F0
            obtain ⟨v, hv⟩ : ∃ v, tiE (byt t) = v := ⟨_, rfl⟩
            have hv2 : tiE t.data.toList = v := hv
            rw [hv2] at F0
            rw [hv] at hst hc
            have hcb : (v != 0) = true := by rw [bne_iff_ne]; exact hc
            have HF := Lib.hid F0
            have HD := Lib.hid hst
            clear F0 hst hv hv' hv2 hd hC hO hB hok ht
            go_wp2_with fail
            with_reducible refine (HF.out _).mono ?_
            rintro e w2 ⟨rfl, rfl⟩
            go_wp2_with fail
            go_ret2
            obtain ⟨rfl, rfl⟩ := HK.out
            have hQ := HD.out
            subst hQ
            exact ⟨none, 0, rfl, IntsAt.nil _ _, btr HB.out (HR.out)⟩
        · have he : k = n := by omega
          subst he
          have hd : ts.drop k = [] := List.drop_of_length_le (by rw [HN.out]; exact Nat.le_refl _)
          rw [hd] at hC
          have HQ := Lib.hid (contI_end hC)
          obtain ⟨_, ao2, cap, rfl, hT2⟩ := own_ints hO
          have HT2 := Lib.hid hT2
          clear hd hC hO hB hok hT2
          go_wp2_with fail
          go_ret2
          obtain ⟨rfl, rfl⟩ := HK.out
          have hQ := HQ.out
          subst hQ
          exact ⟨ao2, cap, by rw [HOK.out]; rfl, HT2.out, btr HB.out HR.out⟩
  · have HR := Lib.hid (K1 hE0)
    have hEb : (E != 0) = true := by rw [bne_iff_ne]; exact hE0
    clear K1 K2 K3 hn
    go_enter Tryd.func21, Tryd.ntmps21
    go_wp2_with fail
    refine (HU.out).mono ?_
    rintro e w1 ⟨ao, c, he, hT, hB⟩
    rw [HN.out] at he
    subst he
    have HB := Lib.hid hB
    clear hT hB
    go_wp2_with fail
    go_ret2
    obtain ⟨rfl, rfl⟩ := HR.out
    exact ⟨none, 0, rfl, IntsAt.nil _ _, HB.out⟩
end Go.Proofs.YtlgplhekiemeoaaDoor
