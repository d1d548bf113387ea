/-
  Package wire's Unpack.
-/
import Derived.Test.YtlgplhekiemeoaaDoorWI
import Derived.Lib.ConvBytes
import Derived.Deep.LoopGhost
namespace Go.Proofs.YtlgplhekiemeoaaDoor
open Go Go.RowKit Go.Lib WM

theorem grown_cap (w : World) (n : Nat) (h : n ≤ 1000000) : n ≤ grownCap w n 0 5 ∧ grownCap w n 0 5 ≤ 9223372036854775807 := by
  refine ⟨grownCap_ge w _ _ _, ?_⟩
  have := grownCap_le_maxLen w n 0 5 (by unfold maxLen; omega)
  unfold maxLen at this
  omega
theorem BytesAt.keepB {b o base : Nat} {r : List UInt8} {w w' : World} (h : BytesAt b o r w) (hb : Below base w w') (hlt : b < base) : BytesAt b o r w' := by
  intro j hj
  exact (hb.cell (p := ⟨b, o + j, none⟩) hlt).trans (h j hj)
theorem below_bytes (w : World) (s : ByteArray) : Below w.heap.size w (Lib.bytesWorld w 5 s) := Lib.bytesWorld_below _ _ _

set_option maxRecDepth 100000 in
set_option maxHeartbeats 4000000 in
theorem munpack (s : ByteArray) (hs : s.size ≤ 1000000) (w : World) (hE : Er w) :
    Calls Tryd.prog 13 #[.string s] w (GotT (unp (byt s)) w) := by
  obtain ⟨i0, hi, hz0, hz1, hz2⟩ := info_parts infoT
  have C0 := cont_start (byt s)
  have hbl := byt_len s
  obtain ⟨R, hR⟩ : ∃ R, byt s = R := ⟨_, rfl⟩
  rw [hR] at hbl
  obtain ⟨q, hq⟩ : ∃ q, unp (byt s) = q := ⟨_, rfl⟩
  rw [hq, hR] at C0
  rw [hq]
  have HC := Lib.hid C0
  have hcv := Lib.run_convert_string_bytes (P := Tryd.prog) w 9 43 5 s Tryd.underlying9 Tryd.underlying43 Tryd.underlying5
  obtain ⟨hg1, hg2⟩ := grown_cap w s.size hs
  obtain ⟨G, hG⟩ : ∃ G, grownCap w s.size 0 5 = G := ⟨_, rfl⟩
  rw [hG] at hcv hg1 hg2
  have hB1 := below_bytes w s
  have hA1 : BytesAt w.heap.size 0 R (Lib.bytesWorld w 5 s) := by
    intro j hj
    rw [Nat.zero_add, ← hR]
    exact Lib.bytesWorld_cell w 5 s j (by omega)
  have hsw1 : w.heap.size < (Lib.bytesWorld w 5 s).heap.size := by rw [Lib.bytesWorld_size]; omega
  obtain ⟨w1, hw1⟩ : ∃ w1, Lib.bytesWorld w 5 s = w1 := ⟨_, rfl⟩
  rw [hw1] at hcv hB1 hA1 hsw1
  have HB1 := Lib.hid hB1
  have HA1 := Lib.hid hA1
  have HE1 := Lib.hid (hE.keep hB1)
  have HL := Lib.hid hbl
  have CB := Lib.hid (fun b o c r n hn hn1 hnc hc W hE h => mcut_err b o c r n hn hn1 hnc hc W hE h)
  have CO := Lib.hid (fun b o c r n hn hn1 hnc hc hz W hE h => mcut_ok b o c r n hn hn1 hnc hc hz W hE h)
  obtain ⟨B, hBB⟩ : ∃ B, w.heap.size = B := ⟨_, rfl⟩
  rw [hBB] at hcv
  have HA2 : Hid (BytesAt B 0 R w1) := Lib.hid (by rw [← hBB]; exact HA1.out)
  have HBB := Lib.hid hBB
  clear C0 hq hR hG hB1 hA1 hw1 hE hbl HA1 hBB
  go_enter Tryd.func13, Tryd.ntmps13
  go_wp2_with fail
  go_loopg [4, 5] (s.size) (fun g x y wr => ∃ (o : List ByteArray) (r : List UInt8) (off cap : Nat), g = r.length ∧ y = .slice (some ⟨B, off, none⟩) r.length cap ∧ r.length ≤ cap ∧ cap ≤ 9223372036854775807 ∧ r.length + o.length ≤ s.size ∧ BytesAt B off r wr ∧ wr.ownsRow w1.heap.size 9 1 x o.length (txts o) ∧ Cont q o r ∧ Below w1.heap.size w1 wr)
  case atStart => exact ⟨[], R, 0, G, HL.out.symm, by rw [HL.out], by rw [HL.out]; exact hg1, hg2, by rw [HL.out]; simp, HA2.out, World.ownsRow_nil _ _ _ _, HC.out, bref w1⟩
  case round =>
    obtain ⟨o, r, off, cap, hgk, rfl, hrc, hcm, hro, hA, hO, hC, hB⟩ := hrel
    obtain ⟨n, hn⟩ : ∃ n, o.length = n := ⟨_, rfl⟩
    obtain ⟨m, hm⟩ : ∃ m, r.length = m := ⟨_, rfl⟩
    rw [hn] at hO hro
    rw [hm] at hro hrc hgk ⊢
    have HN := Lib.hid hn
    have HM := Lib.hid hm
    have HGK := Lib.hid hgk
    have HO := Lib.hid hO
    have HA := Lib.hid hA
    have HB := Lib.hid hB
    have HEr := Lib.hid (HE1.out.keep hB)
    have hsw := hB.size
    clear hgk
    by_cases h0 : 0 < m
    · have hne : r ≠ [] := by intro h; rw [h] at hm; simp at hm; omega
      have h0z : (0 : Int) < (m : Int) := by omega
      by_cases hc : cutE r = 0
      · have F0 := CO.out B off cap r m hm (by omega) hrc hcm hc
        have hd := cont_step hC hne hc
        have hxl := cutX_len hc
        have hrl := cutR_len r
        obtain ⟨m1, m2, m3⟩ := cutE_zero hc
        rw [hm] at hrl m3
        have hlt : (cutR r).length < m := by omega
        have HF := Lib.hid F0
        have HD := Lib.hid hd
        have HXL := Lib.hid hxl
        clear F0 hd hxl hrl m1 m2 m3 hc hne hC hO hA hB hn hm
        go_wp2_with fail
        with_reducible refine (HF.out _ HEr.out HA.out).mono ?_
        rintro e w2 ⟨fo, fc, oo, oc, he, hX, hR2, k1, k2, q2⟩
        obtain ⟨N, hN⟩ : ∃ N, cutN r = N := ⟨_, rfl⟩
        obtain ⟨M, hM⟩ : ∃ M, (cutR r).length = M := ⟨_, rfl⟩
        rw [hN, hM] at he
        subst he
        have hcv2 := conv_bytes B fo fc (cutX r) N (by rw [HXL.out, hN]) w2 hX
        obtain ⟨X, hXX⟩ : ∃ X, str (cutX r) = X := ⟨_, rfl⟩
        rw [hXX] at hcv2
        have HDX := HD.out
        rw [hXX] at HDX
        have HD2 := Lib.hid HDX
        have HR2 := Lib.hid hR2
        have HQ2 := Lib.hid q2
        have HO2 := Lib.hid (own_below HO.out q2)
        have HMM := Lib.hid hM
        have hsw2 := Nat.le_trans hsw q2.size
        rw [hM] at k1 hlt
        clear hX hR2 q2 hN hM hXX HDX
        go_wp2_with (at_builtin; refine wpList_append_one (.string X) rfl rfl (.tmp 23) (.tmp 26) 22 rfl w1.heap.size i0 (.string ⟨#[]⟩) 16 Tryd.underlying22 hi hz0 hz1 hz2 rfl _ _ _ rfl HO2.out rfl rfl (by unfold maxLen; omega) (by omega) hsw2 ?_; intro v5 w5 ox gx)
        have ox2 : w5.ownsRow w1.heap.size 9 1 v5 (o ++ [X]).length (txts (o ++ [X])) := by
          rw [List.length_append, HN.out]; simpa [txts] using ox
        have HO3 := Lib.hid ox2
        have HB3 := Lib.hid ((btr HB.out HQ2.out).trans gx)
        have HA5 := Lib.hid (HR2.out.keepB gx (show B < w1.heap.size by rw [← HBB.out]; exact hsw1))
        clear ox gx ox2
        go_wp2_with fail
        go_roundg M
        case measure => rw [HGK.out]; exact hlt
        case rel => exact ⟨o ++ [X], cutR r, oo, oc, HMM.out.symm, by rw [HMM.out], by rw [HMM.out]; exact k1, k2, by rw [HMM.out, List.length_append, HN.out]; simp; omega, HA5.out, HO3.out, HD2.out, HB3.out⟩
      · have F0 := CB.out B off cap r m hm (by omega) hrc hc
        have hQ := cont_bad hC hne hc
        obtain ⟨E, hE⟩ : ∃ E, cutE r = E := ⟨_, rfl⟩
        rw [hE] at hQ F0 hc
        have hcb : (E != 0) = true := by rw [bne_iff_ne]; exact hc
        have HF := Lib.hid F0
        have HQ := Lib.hid hQ
        clear F0 hQ hE hne hC hO hA hB hn hm
        go_wp2_with fail
        with_reducible refine (HF.out _ HEr.out HA.out).mono ?_
        rintro e w2 ⟨rfl, q2⟩
        have HQ2 := Lib.hid q2
        clear q2
        go_wp2_with fail
        go_ret2
        have hQ := HQ.out
        subst hQ
        exact ⟨none, 0, rfl, TextsAt.nil _ _, btr HB1.out (btr HB.out HQ2.out)⟩
    · obtain rfl : m = 0 := by omega
      have hr : r = [] := List.eq_nil_of_length_eq_zero hm
      rw [hr] at hC
      have HQ := Lib.hid (cont_end hC)
      obtain ⟨_, ao, oc, rfl, hT⟩ := own_txts hO
      have HT := Lib.hid hT
      clear hC hO hA hB hn hm hT hr

      go_wp2_with fail
      go_ret2
      have hQ := HQ.out
      subst hQ
      exact ⟨ao, oc, by rw [HN.out]; rfl, HT.out, btr HB1.out HB.out⟩
end Go.Proofs.YtlgplhekiemeoaaDoor
