/-
  Tokens: a contract of the document's own Tokenize.
-/
import Derived.Test.YtpmappddepkhiaaGreatDoorTRc
import Derived.Test.YtpmappddepkhiaaGreatDoorTO
namespace Go.Proofs.YtpmappddepkhiaaGreatDoor
open Go Go.RowKit Go.Lib WM TM

theorem byte_cases (c : UInt8) : c = 10 ∨ c = 32 ∨ c = 9 ∨ c = 35 ∨ (c ≠ 10 ∧ c ≠ 32 ∧ c ≠ 9 ∧ c ≠ 35) := by
  by_cases h1 : c = 10
  · exact Or.inl h1
  · by_cases h2 : c = 32
    · exact Or.inr (Or.inl h2)
    · by_cases h3 : c = 9
      · exact Or.inr (Or.inr (Or.inl h3))
      · by_cases h4 : c = 35
        · exact Or.inr (Or.inr (Or.inr (Or.inl h4)))
        · exact Or.inr (Or.inr (Or.inr (Or.inr ⟨h1, h2, h3, h4⟩)))
theorem u8_no (c : UInt8) (n : Nat) (hn : n < 256) (h : c ≠ UInt8.ofNat n) : ((c.toNat : Int) == (n : Int)) = false := by
  rw [beq_eq_false_iff_ne]
  exact fun e => h ((u8_int c n hn).1 e)
theorem dw_step (l : List UInt8) (c : UInt8) (r : List UInt8) (h : l = c :: r) (hc : c ≠ 10) : l.dropWhile nlf = r.dropWhile nlf := by
  rw [h, List.dropWhile_cons, if_pos (by unfold nlf; rw [bne_iff_ne]; exact hc)]
theorem dw_stop (l : List UInt8) (c : UInt8) (r : List UInt8) (h : l = c :: r) (hc : c = 10) : l.dropWhile nlf = l := by
  rw [h, List.dropWhile_cons, if_neg (by subst hc; decide)]

set_option maxRecDepth 100000 in
set_option maxHeartbeats 8000000 in
theorem rtokenize (s : ByteArray) (w : World) :
    Calls Tryz.prog 7 #[.string s] w (GotK (TZ (byt s)) w) := by
  obtain ⟨i0, hi, hz0, hz1, hz2⟩ := info_parts infoTok
  have hlen := byt_len s
  by_cases h0 : 2048 < s.size
  · have hq : TZ (byt s) = ([], 0, 5) := by unfold TZ; rw [if_pos (by omega)]
    have h0z : (2048 : Int) < (s.size : Int) := by omega
    rw [hq]
    clear hq h0 hlen
    go_enter Tryz.func7, Tryz.ntmps7
    go_wp2_with fail
    go_ret3
    exact ⟨none, 0, rfl, TokensAt.nil _ _, bref _⟩
  · have h0z : ¬ (2048 : Int) < (s.size : Int) := by omega
    have hq : cmb [] (TK 1 ((byt s).drop 0)) = TZ (byt s) := by rw [List.drop_zero, cmb_nil, TZ_small (by omega)]
    obtain ⟨q, hQ⟩ : ∃ q, TZ (byt s) = q := ⟨_, rfl⟩
    rw [hQ] at hq ⊢
    have HQ := Lib.hid hq
    have TC := Lib.hid (fun a ha W => rtoken s a ha (by omega) W)
    clear hq hQ hlen
    go_enter Tryz.func7, Tryz.ntmps7
    go_wp2_with fail
    go_loopw [5, 6, 7] (fun x i y wr => ∃ (acc : List TM.Tok) (ln : Int) (k : Nat), i = .int .i64 ln ∧ y = .int .i64 k ∧ k ≤ s.size ∧ acc.length ≤ k ∧ 1 ≤ ln ∧ ln ≤ k + 1 ∧ wr.ownsRow w.heap.size 36 3 x acc.length (toks acc) ∧ cmb acc (TK ln ((byt s).drop k)) = q ∧ Below w.heap.size w wr) (fun _ _ y _ => s.size - (RowKit.intOf y).toNat)
    case atStart => exact ⟨[], 1, 0, rfl, rfl, by omega, by simp, by omega, by omega, World.ownsRow_nil _ _ _ _, HQ.out, bref w⟩
    case round =>
      obtain ⟨acc, ln, k, rfl, rfl, hk, hak, h2, h3, hO, hC, hB⟩ := hrel
      obtain ⟨n, hn⟩ : ∃ n, acc.length = n := ⟨_, rfl⟩
      have HN := Lib.hid hn
      rw [hn] at hO hak
      have HO := Lib.hid hO
      have HB := Lib.hid hB
      have hsw := hB.size
      by_cases hlt : k < s.size
      · have hkz : (k : Int) < (s.size : Int) := by omega
        have hda := drop_at hlt
        rcases byte_cases s[k] with hc | hc | hc | hc | ⟨k1, k2, k3, k4⟩
        · have hcz := (u8_int s[k] 10 (by decide)).2 hc
          rw [hda, hc, TK_feed] at hC
          have HC := Lib.hid hC
          clear hc hC hda hn hO hB
          go_wp2_with fail
          go_roundw
          case rel => exact ⟨acc, (ln + 1), k + 1, by first | rfl | go_num, by go_num, by omega, by rw [HN.out]; omega, by omega, by omega, by rw [HN.out]; exact HO.out, HC.out, HB.out⟩
          case measure => simp [RowKit.intOf]; omega
        · have hcz := (u8_int s[k] 32 (by decide)).2 hc
          rw [hda, hc, TK_blank ln 32 _ (Or.inl rfl)] at hC
          have HC := Lib.hid hC
          clear hc hC hda hn hO hB
          go_wp2_with fail
          go_roundw
          case rel => exact ⟨acc, ln, k + 1, rfl, by go_num, by omega, by rw [HN.out]; omega, by omega, by omega, by rw [HN.out]; exact HO.out, HC.out, HB.out⟩
          case measure => simp [RowKit.intOf]; omega
        · have hcz := (u8_int s[k] 9 (by decide)).2 hc
          rw [hda, hc, TK_blank ln 9 _ (Or.inr rfl)] at hC
          have HC := Lib.hid hC
          clear hc hC hda hn hO hB
          go_wp2_with fail
          go_roundw
          case rel => exact ⟨acc, ln, k + 1, rfl, by go_num, by omega, by rw [HN.out]; omega, by omega, by omega, by rw [HN.out]; exact HO.out, HC.out, HB.out⟩
          case measure => simp [RowKit.intOf]; omega
        · have hcz := (u8_int s[k] 35 (by decide)).2 hc
          have hdw : ((byt s).drop k).dropWhile nlf = ((byt s).drop (k + 1)).dropWhile nlf := dw_step _ _ _ hda (by rw [hc]; decide)
          rw [hda, hc, TK_hash, ← hdw] at hC
          have HC := Lib.hid hC
          have HC35 := Lib.hid hc
          clear hc hC hda hn hO hB hdw
          go_wp2_with fail
          go_loop [7] (fun y => ∃ (j : Nat), y = .int .i64 j ∧ k ≤ j ∧ j ≤ s.size ∧ (j = k ∨ k < j) ∧ ((byt s).drop k).dropWhile nlf = ((byt s).drop j).dropWhile nlf) (fun y => s.size - (RowKit.intOf y).toNat)
          case atStart => exact ⟨k, rfl, Nat.le_refl _, hk, Or.inl rfl, rfl⟩
          case round =>
            obtain ⟨j, rfl, hkj, hj, hjk, hD⟩ := hrel
            have HD := Lib.hid hD
            clear hD
            by_cases hjl : j < s.size
            · have hjz : (j : Int) < (s.size : Int) := by omega
              have hdj := drop_at hjl
              by_cases hc10 : s[j] = 10
              · have hc10z := (u8_int s[j] 10 (by decide)).2 hc10
                have hD2 : ((byt s).drop k).dropWhile nlf = (byt s).drop j := by rw [HD.out, dw_stop _ _ _ hdj hc10]
                have hjne : k < j := by
                  rcases hjk with h | h
                  · subst h; rw [HC35.out] at hc10; exact absurd hc10 (by decide)
                  · exact h
                have HC2 : Hid (cmb acc (TK ln ((byt s).drop j)) = q) := Lib.hid (by rw [← hD2]; exact HC.out)
                clear hdj hc10 hD2 hjk
                go_wp2_with fail
                go_roundw
                case rel => exact ⟨acc, ln, j, rfl, rfl, hj, by rw [HN.out]; omega, by omega, by omega, by rw [HN.out]; exact HO.out, HC2.out, HB.out⟩
                case measure => simp [RowKit.intOf]; omega
              · have hc10b : ((s[j].toNat : Int) == 10) = false := u8_no s[j] 10 (by decide) hc10
                have HD2 : Hid (((byt s).drop k).dropWhile nlf = ((byt s).drop (j + 1)).dropWhile nlf) := Lib.hid (by rw [HD.out, dw_step _ _ _ hdj hc10])
                have hc10c : ((s[j].toNat : Int) != 10) = true := by rw [bne, hc10b]; rfl
                clear hdj hc10 hjk
                go_wp2_with fail
                go_round
                case rel => exact ⟨j + 1, by go_num, by omega, by omega, Or.inr (by omega), HD2.out⟩
                case measure => simp [RowKit.intOf]; omega
            · have hje : j = s.size := by omega
              subst hje
              have hD2 : ((byt s).drop k).dropWhile nlf = (byt s).drop s.size := by rw [HD.out, List.drop_eq_nil_of_le (by rw [byt_len]; exact Nat.le_refl _)]; rfl
              have HC2 : Hid (cmb acc (TK ln ((byt s).drop s.size)) = q) := Lib.hid (by rw [← hD2]; exact HC.out)
              clear hD2 hjk
              go_wp2_with fail
              go_roundw
              case rel => exact ⟨acc, ln, s.size, rfl, rfl, Nat.le_refl _, by rw [HN.out]; omega, by omega, by omega, by rw [HN.out]; exact HO.out, HC2.out, HB.out⟩
              case measure => simp [RowKit.intOf]; omega
        · have b1 : ((s[k].toNat : Int) == 10) = false := u8_no s[k] 10 (by decide) k1
          have b2 : ((s[k].toNat : Int) == 32) = false := u8_no s[k] 32 (by decide) k2
          have b3 : ((s[k].toNat : Int) == 9) = false := u8_no s[k] 9 (by decide) k3
          have b4 : ((s[k].toNat : Int) == 35) = false := u8_no s[k] 35 (by decide) k4
          have hb : beg s[k] := ⟨k1, fun h => h.elim k2 k3, k4⟩
          have F0 := fun W => TC.out k hlt W
          obtain ⟨L, hL⟩ : ∃ L, (byt s).drop k = L := ⟨_, rfl⟩
          rw [hL] at F0 hda hC
          obtain ⟨E, hE⟩ : ∃ E, err L = E := ⟨_, rfl⟩
          rw [hE] at F0
          by_cases hE0 : E = 0
          · have htl2 := tx_le L
            have hLl : L.length = s.size - k := by rw [← hL, List.length_drop, byt_len]
            have htk : cmb (acc ++ [(knd L, ln, tx L)]) (TK ln (L.drop (tx L).length)) = q := by
              rw [← cmb_psh, ← hC]
              have h5 := TK_tok ln s[k] ((byt s).drop (k + 1)) hb (by rw [← hda, hE, hE0])
              rw [← hda] at h5
              rw [h5]
            have htp : 1 ≤ (tx L).length := by
              obtain ⟨y, hy⟩ := tx_cons s[k] ((byt s).drop (k + 1)) (by rw [← hda, hE, hE0])
              rw [← hda] at hy
              rw [hy]; simp
            rw [← hL, List.drop_drop, hL] at htk
            subst hE0
            have HF := Lib.hid F0
            have HC := Lib.hid htk
            have HTL : Hid (1 ≤ (tx L).length ∧ k + (tx L).length ≤ s.size) := Lib.hid ⟨htp, by omega⟩
            clear k1 k2 k3 k4 hb hC hda hn hO hB F0 hE htk htl2 hLl htp hL
            go_wp2_with fail
            refine (HF.out _).mono ?_
            rintro e w1 ⟨⟨K, X, rfl, hKX⟩, q1⟩
            obtain ⟨rfl, hX⟩ := hKX (by simp)
            obtain ⟨K, hK⟩ : ∃ K, knd L = K := ⟨_, rfl⟩
            have hxt : tcells (knd L, ln, tx L) = [.int .i64 K, .int .i64 ln, .string X] := by rw [← hX, hK]; show [_, _, Value.string (str (byt X))] = _; rw [str_byt]
            have hXs : (tx L).length = X.size := by rw [← hX, byt_len]
            have HXT := Lib.hid hxt
            obtain ⟨hp1, hp2⟩ := HTL.out
            rw [hXs] at hp1 hp2
            have HCX := HC.out
            rw [hXs] at HCX
            have HC2 := Lib.hid HCX
            rw [hK]
            have HO1 := Lib.hid (own_below HO.out q1)
            have B1 := Lib.hid (btr HB.out q1)
            have hsw1 := Nat.le_trans hsw q1.size
            clear q1 hKX hX hxt hXs HCX hK
            go_wp2_with (at_builtin; refine wpList_append_tok (w1 := w1) K ln X rfl (by repeat (first | exact bref _ | refine bdr ?_ | refine bal ?_ _ | refine bset ?_ (by simp; done) _)) rfl (.tmp 32) (.tmp 34) 23 rfl w.heap.size i0 (.agg #[.int .i64 0, .int .i64 0, .string ⟨#[]⟩]) 32 Tryz.underlying23 hi hz0 hz1 hz2 rfl _ _ _ rfl HO1.out (w1.heap.size + 1) (by simp) rfl (by unfold maxLen; omega) (by omega) hsw1 ?_; intro v5 w5 ox gx bx; have c2 : w5.cell? ⟨w1.heap.size, 2, none⟩ = some (.string X) := (World.cell?_of_block (bx _ (Nat.le_refl _) (by simp))).trans (by simp [go_sem]))
            have ox2 : w5.ownsRow w.heap.size 36 3 v5 (acc ++ [(knd L, ln, tx L)]).length (toks (acc ++ [(knd L, ln, tx L)])) := by
              rw [List.length_append, HN.out, toks_snoc, HXT.out]; exact ox
            have HO2 := Lib.hid ox2
            have HB2 := Lib.hid (B1.out.trans gx)
            clear ox gx bx ox2
            go_roundw
            case rel => exact ⟨acc ++ [(knd L, ln, tx L)], ln, k + X.size, rfl, by go_num, by omega, by rw [List.length_append, HN.out]; simp; omega, by omega, by omega, HO2.out, HC2.out, HB2.out⟩
            case measure => simp [RowKit.intOf]; omega
          · have hQ : q = ([], ln, E) := by
              have h5 := TK_err ln s[k] ((byt s).drop (k + 1)) hb (by rw [← hda, hE]; exact hE0)
              rw [← hda, hE] at h5
              rw [← hC, h5, cmb_bad _ _ _ hE0]
            have hEb : (E != 0) = true := by rw [bne_iff_ne]; exact hE0
            have HF := Lib.hid F0
            have HQ2 := Lib.hid hQ
            clear k1 k2 k3 k4 hb hC hda hn hO hB F0 hE hQ hL
            go_wp2_with fail
            refine (HF.out _).mono ?_
            rintro e w1 ⟨⟨K, X, rfl, _⟩, q1⟩
            have B1 := Lib.hid (btr HB.out q1)
            have hsw1 := Nat.le_trans hsw q1.size
            clear q1
            go_wp2_with fail
            go_ret3
            obtain rfl := HQ2.out
            refine ⟨none, 0, rfl, TokensAt.nil _ _, ?_⟩
            (repeat (first | exact B1.out | refine bdr ?_ | refine bal ?_ _ | refine bset ?_ (by simp; omega) _))
      · have he : k = s.size := by omega
        subst he
        rw [List.drop_eq_nil_of_le (by rw [byt_len]; exact Nat.le_refl _), TK_nil, cmb_end] at hC
        have HC := Lib.hid hC
        obtain ⟨_, ao, cap, rfl, hT⟩ := own_toks hO
        have HT := Lib.hid hT
        clear hC hO hB hn hT
        go_wp2_with fail
        go_ret3
        obtain rfl := HC.out
        exact ⟨ao, cap, by rw [HN.out]; rfl, HT.out, HB.out⟩
end Go.Proofs.YtpmappddepkhiaaGreatDoor
