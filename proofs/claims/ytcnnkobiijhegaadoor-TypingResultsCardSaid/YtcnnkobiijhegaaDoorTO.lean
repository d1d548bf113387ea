/-
  Tokens: a contract of package token's Tokenize.
-/
import Derived.Test.YtcnnkobiijhegaaDoorTH
import Derived.Test.YtcnnkobiijhegaaDoorTN
namespace Go.Proofs.YtcnnkobiijhegaaDoor
open Go Go.RowKit Go.Lib WM TM

/-- Tokens, a line and an error number come back. -/
def GotK (q : List Tok × Int × Int) (w : World) (e : Ending) (w' : World) : Prop :=
  ∃ ao c, e = .returned (.tuple #[.slice ao q.1.length c, .int .i64 q.2.1, .int .i64 q.2.2]) ∧ TokensAt ao q.1 w' ∧ Below w.heap.size w w'
def strS : Value → Nat
  | .string s => s.size
  | _ => 0
theorem kd_cases (c : UInt8) : (kd c = 2 ∧ c = 10) ∨ (kd c = 1 ∧ (c = 32 ∨ c = 9)) ∨ (kd c = 3 ∧ c = 35) ∨ (kd c ≠ 2 ∧ kd c ≠ 1 ∧ kd c ≠ 3 ∧ beg c) := by
  unfold beg
  have := u8_all (fun c => decide ((kd c = 2 ∧ c = 10) ∨ (kd c = 1 ∧ (c = 32 ∨ c = 9)) ∨ (kd c = 3 ∧ c = 35) ∨ (kd c ≠ 2 ∧ kd c ≠ 1 ∧ kd c ≠ 3 ∧ (c ≠ 10 ∧ ¬ (c = 32 ∨ c = 9) ∧ c ≠ 35)))) (by decide +kernel) c
  exact @of_decide_eq_true _ (by infer_instance) this
theorem cut_tail (R : ByteArray) (k : Nat) : byt (R.extract k R.size) = (byt R).drop k := by
  rw [str_cut, byt_str, ← size_list, List.take_length]; rfl
theorem cut_tail_size (R : ByteArray) (k : Nat) : (R.extract k R.size).size = R.size - k := by
  rw [← byt_len, cut_tail, List.length_drop, byt_len]
theorem byt_cons (R : ByteArray) (h : 0 < R.size) : byt R = R[0] :: (byt R).drop 1 := by
  have h1 : R[0] = (byt R)[0]'(by rw [byt_len]; exact h) := rfl
  rw [h1]
  have key : ∀ (l : List UInt8) (hl : 0 < l.length), l = l[0] :: l.drop 1 := by
    intro l hl
    cases l with
    | nil => exact absurd hl (by decide)
    | cons c t => simp
  exact key (byt R) (by rw [byt_len]; exact h)
theorem hash_drop (r : List UInt8) : (35 :: r : List UInt8).drop (sp (nb 10) (35 :: r)) = r.dropWhile nlf := by
  rw [drop_sp, List.dropWhile_cons, if_pos (by decide)]; rfl
theorem cmb_bad (acc : List Tok) (ln e : Int) (h : e ≠ 0) : cmb acc ([], ln, e) = ([], ln, e) := by unfold cmb; rw [if_neg h]
theorem cmb_end (acc : List Tok) : cmb acc ([], 0, 0) = (acc, 0, 0) := by unfold cmb; rw [if_pos rfl, List.append_nil]

set_option maxRecDepth 100000 in
set_option maxHeartbeats 8000000 in
theorem mtokenize (s : ByteArray) (w : World) (hM : Mk w) (hE : Er w) :
    Calls Tryd.prog 38 #[.string s] w (GotK (TZ (byt s)) w) := by
  obtain ⟨i0, hi, hz0, hz1, hz2⟩ := info_parts infoTok
  have hlen := byt_len s
  by_cases h0 : 2048 < s.size
  · have hq : TZ (byt s) = ([], 0, 5) := by unfold TZ; rw [if_pos (by omega)]
    have h0z : (2048 : Int) < (s.size : Int) := by omega
    rw [hq]
    clear hq h0 hlen hM hE
    go_enter Tryd.func38, Tryd.ntmps38
    go_wp2_with fail
    go_ret3
    exact ⟨none, 0, rfl, TokensAt.nil _ _, bref _⟩
  · have h0z : ¬ (2048 : Int) < (s.size : Int) := by omega
    have hq : cmb [] (TK 1 (byt s)) = TZ (byt s) := by rw [cmb_nil, TZ_small (by omega)]
    obtain ⟨q, hQ⟩ : ∃ q, TZ (byt s) = q := ⟨_, rfl⟩
    rw [hQ] at hq ⊢
    have HQ := Lib.hid hq
    have HM := Lib.hid hM
    have HE := Lib.hid hE
    have FC := Lib.hid (fun R h0 hs W hM hE => mfirst R h0 hs W hM hE)
    have KC := Lib.hid (fun c W => mkind c W)
    have CC := Lib.hid (fun R hs W => mcut R 10 hs W)
    clear hq hQ hM hE hlen
    go_enter Tryd.func38, Tryd.ntmps38
    go_wp2_with fail
    go_loopw [5, 6, 7] (fun x i y wr => ∃ (acc : List Tok) (ln : Int) (R : ByteArray), i = .int .i64 ln ∧ y = .string R ∧ acc.length + R.size ≤ s.size ∧ 1 ≤ ln ∧ ln + R.size ≤ s.size + 1 ∧ wr.ownsRow w.heap.size 68 3 x acc.length (toks acc) ∧ cmb acc (TK ln (byt R)) = q ∧ Below w.heap.size w wr) (fun _ _ y _ => strS y)
    case atStart => exact ⟨[], 1, s, rfl, rfl, by simp, by omega, by omega, World.ownsRow_nil _ _ _ _, HQ.out, bref w⟩
    case round =>
      obtain ⟨acc, ln, R, rfl, rfl, h1, h2, h3, hO, hC, hB⟩ := hrel
      obtain ⟨n, hn⟩ : ∃ n, acc.length = n := ⟨_, rfl⟩
      have HN := Lib.hid hn
      rw [hn] at hO h1
      have HO := Lib.hid hO
      have HB := Lib.hid hB
      have hsw := hB.size
      by_cases hR : 0 < R.size
      · have hne : R.toList.isEmpty = false := by
          rw [toList_data]
          show (byt R).isEmpty = false
          rw [byt_cons R hR]; rfl
        have hRz : (0 : Int) < (R.size : Int) := by omega
        have hR1 : (1 : Int) ≤ (R.size : Int) := by omega
        have hcv := i32_byte R[0]
        have MK := KC.out R[0]
        have hx := byt_cons R hR
        have htl := cut_tail R 1
        have hts := cut_tail_size R 1
        rcases kd_cases R[0] with ⟨hk, hc⟩ | ⟨hk, hc⟩ | ⟨hk, hc⟩ | ⟨k2, k1, k3, hb⟩
        · rw [hk] at MK
          have HMK := Lib.hid MK
          rw [hx, hc, TK_feed] at hC
          have HC : Hid (cmb acc (TK (ln + 1) (byt (R.extract 1 R.size))) = q) := Lib.hid (by rw [htl]; exact hC)
          have hw : wrap64 (ln + 1) = ln + 1 := by unfold wrap64; omega
          clear MK hk hc hC hx htl hn hO hB
          go_wp2_with fail
          with_reducible refine (HMK.out _).mono ?_
          rintro e w1 ⟨rfl, rfl⟩
          go_wp2_with fail
          go_roundw
          case rel => exact ⟨acc, (ln + 1), R.extract 1 R.size, by first | rfl | go_num, rfl, by rw [HN.out, hts]; omega, by omega, by rw [hts]; omega, by rw [HN.out]; exact HO.out, HC.out, HB.out⟩
          case measure => simp [strS]; omega
        · rw [hk] at MK
          have HMK := Lib.hid MK
          rw [hx, TK_blank ln _ _ hc] at hC
          have HC : Hid (cmb acc (TK ln (byt (R.extract 1 R.size))) = q) := Lib.hid (by rw [htl]; exact hC)
          clear MK hk hc hC hx htl hn hO hB
          go_wp2_with fail
          with_reducible refine (HMK.out _).mono ?_
          rintro e w1 ⟨rfl, rfl⟩
          go_wp2_with fail
          go_roundw
          case rel => exact ⟨acc, ln, R.extract 1 R.size, rfl, rfl, by rw [HN.out, hts]; omega, by omega, by rw [hts]; omega, by rw [HN.out]; exact HO.out, HC.out, HB.out⟩
          case measure => simp [strS]; omega
        · rw [hk] at MK
          have HMK := Lib.hid MK
          have CU := CC.out R (by omega)
          have hd := hash_drop ((byt R).drop 1)
          have hx2 := hx
          rw [hc] at hx2
          rw [← hx2] at hd
          rw [hx2, TK_hash, ← hd] at hC
          have hXs : (str ((byt R).takeWhile (nb 10))).size = sp (nb 10) (byt R) := by rw [str_size]; rfl
          obtain ⟨k, hk1⟩ : ∃ k, sp (nb 10) (byt R) = k := ⟨_, rfl⟩
          have hk2 : 1 ≤ k := by
            rw [← hk1, hx2]
            unfold sp
            rw [List.takeWhile_cons, if_pos (by decide)]; simp
          have hk3 : k ≤ R.size := by rw [← hk1, ← byt_len]; exact sp_le _ _
          rw [hk1] at hXs hC
          have HC : Hid (cmb acc (TK ln (byt (R.extract k R.size))) = q) := Lib.hid (by rw [cut_tail]; exact hC)
          have hts2 := cut_tail_size R k
          obtain ⟨X, hX⟩ : ∃ X, str ((byt R).takeWhile (nb 10)) = X := ⟨_, rfl⟩
          rw [hX] at CU hXs
          have hXz : (X.size : Int) = (k : Int) := by omega
          have hXle : (X.size : Int) ≤ (R.size : Int) := by omega
          have HCU := Lib.hid CU
          subst hXs
          clear MK hk hc hC hx hx2 htl hn hO hB CU hd hk1 hX hXz
          go_wp2_with fail
          with_reducible refine (HMK.out _).mono ?_
          rintro e w1 ⟨rfl, rfl⟩
          go_wp2_with fail
          refine (HCU.out _).mono ?_
          rintro e w1 ⟨rfl, q1⟩
          have Q1 := Lib.hid q1
          clear q1
          go_wp2_with fail
          go_roundw
          case rel => exact ⟨acc, ln, R.extract X.size R.size, rfl, rfl, by rw [HN.out, hts2]; omega, by omega, by rw [hts2]; omega, by rw [HN.out]; exact own_below HO.out Q1.out, HC.out, btr HB.out Q1.out⟩
          case measure => simp [strS]; omega
        · have F0 := fun W hM hE => FC.out R hR (by omega) W hM hE
          obtain ⟨E, hE⟩ : ∃ E, err (byt R) = E := ⟨_, rfl⟩
          have b2 : (kd R[0] == 2) = false := by rw [beq_eq_false_iff_ne]; exact k2
          have b1 : (kd R[0] == 1) = false := by rw [beq_eq_false_iff_ne]; exact k1
          have b3 : (kd R[0] == 3) = false := by rw [beq_eq_false_iff_ne]; exact k3
          obtain ⟨kv, hkv⟩ : ∃ kv, kd R[0] = kv := ⟨_, rfl⟩
          rw [hkv] at b1 b2 b3 MK
          have HMK := Lib.hid MK
          by_cases hE0 : E = 0
          · have hf1 : fK (byt R) = knd (byt R) := by unfold fK; rw [hE, if_pos hE0]
            have hf2 : fX (byt R) = tx (byt R) := by unfold fX; rw [hE, if_pos hE0]
            have hT : ∀ k x, tokV k 0 x = .agg #[.int .i64 k, .int .i64 0, .string (str x)] := fun _ _ => rfl
            rw [hf1, hf2, hE, hE0, hT] at F0
            have htl2 := tx_le (byt R)
            have htk : cmb (acc ++ [(knd (byt R), ln, tx (byt R))]) (TK ln ((byt R).drop (tx (byt R)).length)) = q := by
              rw [← cmb_psh, ← hC]
              have h5 := TK_tok ln R[0] ((byt R).drop 1) hb (by rw [← hx, hE, hE0])
              rw [← hx] at h5
              rw [h5]
            have htp : 1 ≤ (tx (byt R)).length := by
              obtain ⟨y, hy⟩ := tx_cons R[0] ((byt R).drop 1) (by rw [← hx, hE, hE0])
              rw [← hx] at hy
              rw [hy]; simp
            obtain ⟨K, hK⟩ : ∃ K, knd (byt R) = K := ⟨_, rfl⟩
            obtain ⟨T, hT2⟩ : ∃ T, tx (byt R) = T := ⟨_, rfl⟩
            rw [hK, hT2] at F0 htk
            rw [hT2] at htl2 htp
            have hXs : (str T).size = T.length := str_size T
            rw [byt_len] at htl2
            rw [← hXs, ← cut_tail] at htk
            obtain ⟨X, hX⟩ : ∃ X, str T = X := ⟨_, rfl⟩
            have hxt : tcells (K, ln, T) = [.int .i64 K, .int .i64 ln, .string X] := by rw [← hX]; rfl
            rw [hX] at F0 htk hXs
            have hXz : (X.size : Int) ≤ (R.size : Int) := by omega
            have hXp : 1 ≤ X.size := by omega
            have hts2 := cut_tail_size R X.size
            have HF := Lib.hid F0
            have HC := Lib.hid htk
            have HX := Lib.hid hxt
            clear MK hkv k1 k2 k3 hb hC hx htl hn hO hB F0 hE hE0 hf1 hf2 hT htk hK hT2 hX hxt hXs htl2 htp
            go_wp2_with fail
            with_reducible refine (HMK.out _).mono ?_
            rintro e w1 ⟨rfl, rfl⟩
            go_wp2_with fail
            refine (HF.out _ (HM.out.keep HB.out) (HE.out.keep HB.out)).mono ?_
            rintro e w1 ⟨rfl, q1⟩
            have HO1 := Lib.hid (own_below HO.out q1)
            have B1 := Lib.hid (btr HB.out q1)
            have hsw1 := Nat.le_trans hsw q1.size
            clear q1
            go_wp2_with (at_builtin; refine wpList_append_tok (w1 := w1) K ln X rfl (by repeat (first | exact bref _ | refine bdr ?_ | refine bal ?_ _ | refine bset ?_ (by simp; done) _)) rfl (.tmp 34) (.tmp 36) 64 rfl w.heap.size i0 (.agg #[.int .i64 0, .int .i64 0, .string ⟨#[]⟩]) 32 Tryd.underlying64 hi hz0 hz1 hz2 rfl _ _ _ rfl HO1.out (w1.heap.size + 1) (by simp) rfl (by unfold maxLen; omega) (by omega) hsw1 ?_; intro v5 w5 ox gx bx; have c2 : w5.cell? ⟨w1.heap.size, 2, none⟩ = some (.string X) := (World.cell?_of_block (bx _ (Nat.le_refl _) (by simp))).trans (by simp [go_sem]))
            have ox2 : w5.ownsRow w.heap.size 68 3 v5 (acc ++ [(K, ln, T)]).length (toks (acc ++ [(K, ln, T)])) := by
              rw [List.length_append, HN.out, toks_snoc, HX.out]; exact ox
            have HO2 := Lib.hid ox2
            have HB2 := Lib.hid (B1.out.trans gx)
            clear ox gx bx ox2
            go_roundw
            case rel => exact ⟨acc ++ [(K, ln, T)], ln, R.extract X.size R.size, rfl, rfl, by rw [List.length_append, HN.out, hts2]; simp; omega, by omega, by rw [hts2]; omega, HO2.out, HC.out, HB2.out⟩
            case measure => simp [strS]; omega
          · have hQ : q = ([], ln, E) := by
              have h5 := TK_err ln R[0] ((byt R).drop 1) hb (by rw [← hx, hE]; exact hE0)
              rw [← hx, hE] at h5
              rw [← hC, h5, cmb_bad _ _ _ hE0]
            have hEb : (E != 0) = true := by rw [bne_iff_ne]; exact hE0
            have hT : ∀ k x, tokV k 0 x = .agg #[.int .i64 k, .int .i64 0, .string (str x)] := fun _ _ => rfl
            rw [hE, hT] at F0
            have HF := Lib.hid F0
            have HQ2 := Lib.hid hQ
            clear MK hkv k1 k2 k3 hb hC hx htl hn hO hB F0 hE hQ hT
            go_wp2_with fail
            with_reducible refine (HMK.out _).mono ?_
            rintro e w1 ⟨rfl, rfl⟩
            go_wp2_with fail
            refine (HF.out _ (HM.out.keep HB.out) (HE.out.keep HB.out)).mono ?_
            rintro e w1 ⟨rfl, q1⟩
            have B1 := Lib.hid (btr HB.out q1)
            have hsw1 := Nat.le_trans hsw q1.size
            clear q1
            go_wp2_with fail
            go_ret3
            obtain rfl := HQ2.out
            refine ⟨none, 0, rfl, TokensAt.nil _ _, ?_⟩
            (repeat (first | exact B1.out | refine bdr ?_ | refine bal ?_ _ | refine bset ?_ (by simp; omega) _))
      · have hne : R.toList.isEmpty = true := by
          rw [toList_data, List.isEmpty_iff]
          exact List.eq_nil_of_length_eq_zero (by rw [size_list]; omega)
        have hx : byt R = [] := List.eq_nil_of_length_eq_zero (by rw [byt_len]; omega)
        rw [hx, TK_nil, cmb_end] at hC
        have HC := Lib.hid hC
        obtain ⟨_, ao, cap, rfl, hT⟩ := own_toks hO
        have HT := Lib.hid hT
        clear hx hC hO hB hn hT
        go_wp2_with fail
        go_ret3
        obtain rfl := HC.out
        exact ⟨ao, cap, by rw [HN.out]; rfl, HT.out, HB.out⟩
end Go.Proofs.YtcnnkobiijhegaaDoor
