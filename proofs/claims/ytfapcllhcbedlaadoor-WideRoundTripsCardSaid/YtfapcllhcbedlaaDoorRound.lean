/-
  The walk of the law WideRoundTrips.
-/
import Derived.Test.YtfapcllhcbedlaaDoorLive
import Derived.Test.YtfapcllhcbedlaaDoorMathR
namespace Go.Proofs.YtfapcllhcbedlaaDoor
open Go Go.RowKit Go.Lib WM

theorem str_list (l : List UInt8) : (str l).data.toList = l := by simp [str]
theorem str_of (s : ByteArray) : str s.data.toList = s := by
  apply ByteArray.ext
  simp [str]

set_option maxRecDepth 100000 in
set_option maxHeartbeats 4000000 in
theorem roundTrips_any (h l : Int) (s : ByteArray) (h1 : I64 h) (h2 : U64 l) (hs : s.size ≤ maxLen) (w : World) (ht : Tb w) :
    Calls Tryd.prog 7 #[.agg #[.int .i64 h, .int .u64 l], .string s] w fun e w' => e = .returned (.bool true) ∧ Below w.heap.size w w' := by
  unfold maxLen at hs
  by_cases hbig : 200 < s.size
  · have hb' : (200 : Int) < (s.size : Int) := by omega
    have T1 : Tb (w.alloc (.cells #[.int .i64 h, .int .u64 l] 24)) := ht.keep (bal (bref _) _)
    clear hbig
    go_enter Tryd.func7, Tryd.ntmps7
    go_wp2_with fail
    refine (live_any _ T1).mono ?_
    rintro e w1 ⟨rfl, q1⟩
    have Z1 := btr (bal (bref w) (.cells #[.int .i64 h, .int .u64 l] 24)) q1
    go_wp2_with fail
    go_ret
    exact ⟨rfl, Z1⟩
  · have hb' : (s.size : Int) ≤ 200 := by omega
    have hsmall : s.size ≤ 1000000 := by omega
    obtain ⟨m1, m2⟩ := parse_itoa (val h l) (inW_val h1 h2)
    have mlen := itoa_len (val h l) (inW_val h1 h2)
    have TX := fun W hT => text_any h l h1 h2 W hT
    obtain ⟨T, hT⟩ : ∃ T, str (itoa (val h l)) = T := ⟨_, rfl⟩
    have hTl : T.data.toList = itoa (val h l) := by rw [← hT, str_list]
    have hTs : T.size ≤ 1000000 := by rw [← hT, str_size]; omega
    simp only [hT] at TX
    have TX := Lib.hid TX
    have PA := fun W => parse_any T hTs W
    simp only [hTl, m1, m2, wH_val h1 h2, wL_val h1 h2] at PA
    have PA := Lib.hid PA
    have PS := fun W => parse_any s hsmall W
    have M := itoa_parse s.data.toList
    obtain ⟨E, hE⟩ : ∃ E, pE s.data.toList = E := ⟨_, rfl⟩
    obtain ⟨V, hV⟩ : ∃ V, pV s.data.toList = V := ⟨_, rfl⟩
    simp only [hE, hV] at PS M
    clear hE hV hT hTl m1 m2 mlen hbig
    by_cases hE : E = 0
    · obtain ⟨g1, g2⟩ := M hE
      subst hE
      have PS := Lib.hid PS
      have TY := fun W hT => text_any (wH V) (wL V) (wH_I64 V) (wL_U64 V) W hT
      simp only [val_w g1, g2, str_of] at TY
      have TY := Lib.hid TY
      clear M g1 g2
      go_enter Tryd.func7, Tryd.ntmps7
      have A0 := Own.new w (.int .i64 h) (.int .u64 l) 24
      have T0 : Tb (w.alloc (.cells #[.int .i64 h, .int .u64 l] 24)) := ht.keep (bal (bref _) _)
      go_wp2_with fail
      refine (TX.out _ T0).mono ?_
      rintro e w1 ⟨rfl, q1⟩
      have A1 := A0.keep q1
      have Z1 := btr (bal (bref w) (.cells #[.int .i64 h, .int .u64 l] 24)) q1
      clear A0 T0 q1
      go_wp2_with fail
      refine (PA.out _).mono ?_
      rintro e w2 ⟨rfl, q2⟩
      have A2 := (A1.keep q2).al (.cells #[.int .i64 h, .int .u64 l] 24)
      have X2 := Own.new w2 (.int .i64 h) (.int .u64 l) 24
      have Z2 := bal (btr Z1 q2) (.cells #[.int .i64 h, .int .u64 l] 24)
      clear A1 Z1 q2
      go_wp2_with fail
      refine (PS.out _).mono ?_
      rintro e w3 ⟨rfl, q3⟩
      have A3 := (A2.keep q3).al (.cells #[.int .i64 (wH V), .int .u64 (wL V)] 24)
      have X3 := (X2.keep q3).al (.cells #[.int .i64 (wH V), .int .u64 (wL V)] 24)
      have Y3 := Own.new w3 (.int .i64 (wH V)) (.int .u64 (wL V)) 24
      have Z3 := bal (btr Z2 q3) (.cells #[.int .i64 (wH V), .int .u64 (wL V)] 24)
      have T3 := ht.keep Z3
      clear A2 X2 Z2 q3
      obtain ⟨a0, a1, _, _⟩ := A3; obtain ⟨x0, x1, _, _⟩ := X3; obtain ⟨y0, y1, _, _⟩ := Y3
      go_wp2_with fail
      refine (TY.out _ T3).mono ?_
      rintro e w4 ⟨rfl, q4⟩
      have Z4 := btr Z3 q4
      have T4 := ht.keep Z4
      clear Z3 q4 T3
      go_wp2_with fail
      refine (live_any _ T4).mono ?_
      rintro e w5 ⟨rfl, q5⟩
      have Z5 := btr Z4 q5
      go_wp2_with fail
      go_ret
      exact ⟨rfl, Z5⟩
    · have PS := Lib.hid PS
      have e1 : (E == 0) = false := by rw [beq_eq_false_iff_ne]; exact hE
      have e2 : (E != 0) = true := by rw [bne_iff_ne]; exact hE
      clear M hE
      go_enter Tryd.func7, Tryd.ntmps7
      have A0 := Own.new w (.int .i64 h) (.int .u64 l) 24
      have T0 : Tb (w.alloc (.cells #[.int .i64 h, .int .u64 l] 24)) := ht.keep (bal (bref _) _)
      go_wp2_with fail
      refine (TX.out _ T0).mono ?_
      rintro e w1 ⟨rfl, q1⟩
      have A1 := A0.keep q1
      have Z1 := btr (bal (bref w) (.cells #[.int .i64 h, .int .u64 l] 24)) q1
      clear A0 T0 q1
      go_wp2_with fail
      refine (PA.out _).mono ?_
      rintro e w2 ⟨rfl, q2⟩
      have A2 := (A1.keep q2).al (.cells #[.int .i64 h, .int .u64 l] 24)
      have X2 := Own.new w2 (.int .i64 h) (.int .u64 l) 24
      have Z2 := bal (btr Z1 q2) (.cells #[.int .i64 h, .int .u64 l] 24)
      clear A1 Z1 q2
      go_wp2_with fail
      refine (PS.out _).mono ?_
      rintro e w3 ⟨rfl, q3⟩
      have A3 := (A2.keep q3).al (.cells #[.int .i64 (wH V), .int .u64 (wL V)] 24)
      have X3 := (X2.keep q3).al (.cells #[.int .i64 (wH V), .int .u64 (wL V)] 24)
      have Z3 := bal (btr Z2 q3) (.cells #[.int .i64 (wH V), .int .u64 (wL V)] 24)
      have T3 := ht.keep Z3
      clear A2 X2 Z2 q3
      obtain ⟨a0, a1, _, _⟩ := A3; obtain ⟨x0, x1, _, _⟩ := X3
      go_wp2_with fail
      refine (live_any _ T3).mono ?_
      rintro e w5 ⟨rfl, q5⟩
      have Z5 := btr Z3 q5
      go_wp2_with fail
      go_ret
      exact ⟨rfl, Z5⟩
end Go.Proofs.YtfapcllhcbedlaaDoor
