/-
  Tokens: a contract of package token's first.
-/
import Derived.Test.YtcnnkobiijhegaaDoorTF
namespace Go.Proofs.YtcnnkobiijhegaaDoor
open Go Go.RowKit Go.Lib WM TM

def fK (l : List UInt8) : Int := if err l = 0 then knd l else 0
def fX (l : List UInt8) : List UInt8 := if err l = 0 then tx l else []
theorem f_name {l : List UInt8} (h : isL (hd l) = true) : fK l = nmK (tx l) ∧ fX l = nmX (tx l) ∧ err l = nmerr (tx l) := by
  have e : err l = nmerr (tx l) := by unfold err; rw [if_pos h]
  refine ⟨?_, ?_, e⟩
  · unfold fK nmK knd; rw [e, if_pos h]
  · unfold fX nmX; rw [e]
theorem f_num {l : List UInt8} (h : isL (hd l) = false) (h2 : dig (hd l) = true) : fK l = nuK (tx l) ∧ fX l = nuX (tx l) ∧ err l = nerr (tx l) := by
  have e : err l = nerr (tx l) := by unfold err; rw [h, h2]; rfl
  refine ⟨?_, ?_, e⟩
  · unfold fK nuK knd; rw [e, h, h2]; rfl
  · unfold fX nuX; rw [e]
theorem f_mark {l : List UInt8} (h : isL (hd l) = false) (h2 : dig (hd l) = false) : fK l = mkK l ∧ fX l = mkX l ∧ err l = mkE l := by
  have e : err l = mkE l := by unfold err mkE; rw [h, h2]; rfl
  have t : tx l = l.take (mrk l) := by unfold tx; rw [h, h2]; rfl
  refine ⟨?_, ?_, e⟩
  · unfold fK mkK knd
    rw [e, h, h2]
    unfold mkE
    by_cases q : mrk l = 0
    · rw [if_pos q, if_pos q]; rfl
    · rw [if_neg q, if_neg q]; rfl
  · unfold fX mkX
    rw [e, t]
    unfold mkE
    by_cases q : mrk l = 0
    · rw [if_pos q, if_pos q]; rfl
    · rw [if_neg q, if_neg q]; rfl
theorem hd_at (s : ByteArray) (h : 0 < s.size) : hd (byt s) = s[0] := by
  have h1 : s[0] = (byt s)[0]'(by rw [byt_len]; exact h) := rfl
  rw [h1]
  unfold hd
  have key : ∀ (l : List UInt8) (hl : 0 < l.length), l.headD 0 = l[0] := by
    intro l hl
    cases l with
    | nil => exact absurd hl (by decide)
    | cons c t => simp
  exact key (byt s) (by rw [byt_len]; exact h)
theorem kd_L (c : UInt8) : isL c = decide (kd c = 4) := by
  have := u8_all (fun c => isL c == decide (kd c = 4)) (by decide +kernel) c
  exact eq_of_beq this
theorem kd_D (c : UInt8) : dig c = decide (kd c = 5) := by
  have := u8_all (fun c => dig c == decide (kd c = 5)) (by decide +kernel) c
  exact eq_of_beq this
theorem tx_name (s : ByteArray) (h : isL (hd (byt s)) = true) : s.extract 0 (sp isW (byt s)) = str (tx (byt s)) := by
  rw [str_cut]
  unfold tx
  rw [if_pos h, ← take_sp]; rfl
theorem tx_num (s : ByteArray) (h : isL (hd (byt s)) = false) (h2 : dig (hd (byt s)) = true) : s.extract 0 (sp isN (byt s)) = str (tx (byt s)) := by
  rw [str_cut]
  unfold tx
  rw [h, h2, if_neg (by decide), if_pos rfl, ← take_sp]; rfl
theorem kinds_new2 (w : World) (o : Obj) (K : List Int) (t : TypeId) : KindsAt (w.heap.size + 1) 0 K ((w.alloc o).alloc (.cells (K.map (Value.int IntKind.i64)).toArray t)) := by
  have h := kinds_new (w.alloc o) K t
  simpa using h

set_option maxRecDepth 100000 in
set_option maxHeartbeats 4000000 in
theorem mfirst (s : ByteArray) (hs0 : 0 < s.size) (hs : s.size ≤ 281474976710600) (w : World) (hM : Mk w) (hE : Er w) :
    Calls Tryd.prog 42 #[.string s] w fun e w' => e = .returned (.tuple #[tokV (fK (byt s)) 0 (fX (byt s)), .int .i64 (err (byt s))]) ∧ Below w.heap.size w w' := by
  have HB : ∀ {x y z : Value} {t : TypeId}, Own3 (w.alloc (.cells #[x, y, z] t)) w.heap.size x y z := fun {x y z t} => Own3.new w x y z t
  have hs0z : (0 : Int) < (s.size : Int) := by omega
  have MK := Lib.hid (mkind s[0])
  have hcv := i32_byte s[0]
  have hh := hd_at s hs0
  have HM := Lib.hid hM
  have HE := Lib.hid hE
  clear hM hE
  have hk4 := kd_L s[0]
  have hk5 := kd_D s[0]
  have hne : byt s ≠ [] := by intro e; rw [← byt_len, e] at hs0; exact absurd hs0 (by decide)
  by_cases c4 : kd s[0] = 4
  · have g4 : isL (hd (byt s)) = true := by rw [hh, hk4, decide_eq_true c4]
    obtain ⟨e1, e2, e3⟩ := f_name g4
    have MS := fun b off c W hW => mspan s (by omega) [4, 5, 6] b off c (by decide) W hW
    rw [inK_W] at MS
    have hx := tx_name s g4
    have hle := sp_le isW (byt s)
    rw [byt_len] at hle
    have MN := fun W => mnamed (str (tx (byt s))) W
    rw [byt_str, ← e1, ← e2, ← e3] at MN
    obtain ⟨N, hN⟩ : ∃ N, sp isW (byt s) = N := ⟨_, rfl⟩
    obtain ⟨X, hX⟩ : ∃ X, str (tx (byt s)) = X := ⟨_, rfl⟩
    have HT : Hid (tokV (fK (byt s)) 0 (fX (byt s)) = .agg #[.int .i64 (fK (byt s)), .int .i64 0, .string (str (fX (byt s)))]) := Lib.hid rfl
    rw [HT.out] at MN ⊢
    obtain ⟨K, hK⟩ : ∃ K, fK (byt s) = K := ⟨_, rfl⟩
    obtain ⟨Y, hY⟩ : ∃ Y, str (fX (byt s)) = Y := ⟨_, rfl⟩
    obtain ⟨E, hE⟩ : ∃ E, err (byt s) = E := ⟨_, rfl⟩
    rw [hN] at MS hx hle
    rw [hX] at hx MN
    rw [hK, hY, hE] at MN ⊢
    rw [c4] at MK
    have HS := Lib.hid MS
    have HN := Lib.hid MN
    have hnz : (N : Int) ≤ (s.size : Int) := by omega
    clear MS MN c4 g4 e1 e2 e3 hK hY hE hN hX HT hk4 hk5 hh hne
    go_enter Tryd.func42, Tryd.ntmps42
    go_wp2_with fail
    with_reducible refine (MK.out _).mono ?_
    rintro e w1 ⟨rfl, rfl⟩
    go_wp2_with fail
    refine (HS.out _ _ _ _ (kinds_new2 _ _ [4, 5, 6] _)).mono ?_
    rintro e w2 ⟨rfl, rfl⟩
    have B2 : Below w.heap.size w _ := bal (bal (bref w) (.cells #[.int .i64 0, .int .i64 0, .string ⟨#[]⟩] 68)) (.cells (([4, 5, 6] : List Int).map (Value.int IntKind.i64)).toArray 3)
    go_wp2_with fail
    refine (HN.out _).mono ?_
    rintro e w3 ⟨rfl, q3⟩
    have X3 := Own3.keep (Own3.keep HB (bal (bref _) _)) q3
    have Q3 := Lib.hid (btr B2 q3)
    have s3 := X3.lt
    obtain ⟨x0, x1, x2, x3, x4, x5⟩ := X3
    clear q3
    go_wp2_with fail
    refine bodyPost_ret (v := .tuple #[.agg #[.int .i64 K, .int .i64 0, .string Y], .int .i64 E]) (by simp [results, Tryd.results42, go_sem, set_same, x0, x1, x2]) rfl ⟨rfl, ?_⟩
    (repeat (first | exact Q3.out | refine bdr ?_ | refine bal ?_ _ | refine bset ?_ (by simp; done) _))
  by_cases c5 : kd s[0] = 5
  · have g4 : isL (hd (byt s)) = false := by rw [hh, hk4, decide_eq_false c4]
    have g5 : dig (hd (byt s)) = true := by rw [hh, hk5, decide_eq_true c5]
    obtain ⟨e1, e2, e3⟩ := f_num g4 g5
    have MS := fun b off c W hW => mspan s (by omega) [4, 5, 6, 7] b off c (by decide) W hW
    rw [inK_N] at MS
    have hx := tx_num s g4 g5
    have hle := sp_le isN (byt s)
    rw [byt_len] at hle
    have MN := fun W hW => mnumber (str (tx (byt s))) (by rw [str_size]; have := tx_le (byt s); rw [byt_len] at this; omega) W hW
    rw [byt_str, ← e1, ← e2, ← e3] at MN
    obtain ⟨N, hN⟩ : ∃ N, sp isN (byt s) = N := ⟨_, rfl⟩
    obtain ⟨X, hX⟩ : ∃ X, str (tx (byt s)) = X := ⟨_, rfl⟩
    have HT : Hid (tokV (fK (byt s)) 0 (fX (byt s)) = .agg #[.int .i64 (fK (byt s)), .int .i64 0, .string (str (fX (byt s)))]) := Lib.hid rfl
    rw [HT.out] at MN ⊢
    obtain ⟨K, hK⟩ : ∃ K, fK (byt s) = K := ⟨_, rfl⟩
    obtain ⟨Y, hY⟩ : ∃ Y, str (fX (byt s)) = Y := ⟨_, rfl⟩
    obtain ⟨E, hE⟩ : ∃ E, err (byt s) = E := ⟨_, rfl⟩
    rw [hN] at MS hx hle
    rw [hX] at hx MN
    rw [hK, hY, hE] at MN ⊢
    rw [c5] at MK
    have HS := Lib.hid MS
    have HN := Lib.hid MN
    have hnz : (N : Int) ≤ (s.size : Int) := by omega
    clear MS MN c4 c5 g4 g5 e1 e2 e3 hK hY hE hN hX HT hk4 hk5 hh hne
    go_enter Tryd.func42, Tryd.ntmps42
    go_wp2_with fail
    with_reducible refine (MK.out _).mono ?_
    rintro e w1 ⟨rfl, rfl⟩
    go_wp2_with fail
    refine (HS.out _ _ _ _ (kinds_new2 _ _ [4, 5, 6, 7] _)).mono ?_
    rintro e w2 ⟨rfl, rfl⟩
    have B2 : Below w.heap.size w _ := bal (bal (bref w) (.cells #[.int .i64 0, .int .i64 0, .string ⟨#[]⟩] 68)) (.cells (([4, 5, 6, 7] : List Int).map (Value.int IntKind.i64)).toArray 3)
    go_wp2_with fail
    refine (HN.out _ (HE.out.keep B2)).mono ?_
    rintro e w3 ⟨rfl, q3⟩
    have X3 := Own3.keep (Own3.keep HB (bal (bref _) _)) q3
    have Q3 := Lib.hid (btr B2 q3)
    have s3 := X3.lt
    obtain ⟨x0, x1, x2, x3, x4, x5⟩ := X3
    clear q3
    go_wp2_with fail
    refine bodyPost_ret (v := .tuple #[.agg #[.int .i64 K, .int .i64 0, .string Y], .int .i64 E]) (by simp [results, Tryd.results42, go_sem, set_same, x0, x1, x2]) rfl ⟨rfl, ?_⟩
    (repeat (first | exact Q3.out | refine bdr ?_ | refine bal ?_ _ | refine bset ?_ (by simp; done) _))
  have g4 : isL (hd (byt s)) = false := by rw [hh, hk4, decide_eq_false c4]
  have g5 : dig (hd (byt s)) = false := by rw [hh, hk5, decide_eq_false c5]
  obtain ⟨e1, e2, e3⟩ := f_mark g4 g5
  have MN := fun W hW => mmark s hne W hW
  rw [← e1, ← e2, ← e3] at MN
  have HT : Hid (tokV (fK (byt s)) 0 (fX (byt s)) = .agg #[.int .i64 (fK (byt s)), .int .i64 0, .string (str (fX (byt s)))]) := Lib.hid rfl
  rw [HT.out] at MN ⊢
  obtain ⟨K, hK⟩ : ∃ K, fK (byt s) = K := ⟨_, rfl⟩
  obtain ⟨Y, hY⟩ : ∃ Y, str (fX (byt s)) = Y := ⟨_, rfl⟩
  obtain ⟨E, hE⟩ : ∃ E, err (byt s) = E := ⟨_, rfl⟩
  rw [hK, hY, hE] at MN ⊢
  have b4 : (kd s[0] == 4) = false := by rw [beq_eq_false_iff_ne]; exact c4
  have b5 : (kd s[0] == 5) = false := by rw [beq_eq_false_iff_ne]; exact c5
  obtain ⟨k, hk⟩ : ∃ k, kd s[0] = k := ⟨_, rfl⟩
  rw [hk] at MK b4 b5
  have HN := Lib.hid MN
  clear MN c4 c5 g4 g5 e1 e2 e3 hK hY hE HT hk4 hk5 hh hne hk
  go_enter Tryd.func42, Tryd.ntmps42
  go_wp2_with fail
  with_reducible refine (MK.out _).mono ?_
  rintro e w1 ⟨rfl, rfl⟩
  have B1 : Below w.heap.size w _ := bal (bref w) (.cells #[.int .i64 0, .int .i64 0, .string ⟨#[]⟩] 68)
  go_wp2_with fail
  refine (HN.out _ (HM.out.keep B1)).mono ?_
  rintro e w3 ⟨rfl, q3⟩
  have X3 := Own3.keep HB q3
  have Q3 := Lib.hid (btr B1 q3)
  have s3 := X3.lt
  obtain ⟨x0, x1, x2, x3, x4, x5⟩ := X3
  clear q3
  go_wp2_with fail
  refine bodyPost_ret (v := .tuple #[.agg #[.int .i64 K, .int .i64 0, .string Y], .int .i64 E]) (by simp [results, Tryd.results42, go_sem, set_same, x0, x1, x2]) rfl ⟨rfl, ?_⟩
  (repeat (first | exact Q3.out | refine bdr ?_ | refine bal ?_ _ | refine bset ?_ (by simp; done) _))
end Go.Proofs.YtcnnkobiijhegaaDoor
