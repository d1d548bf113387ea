/-
  Package wire's cut: one text of an encoding.
-/
import Derived.Test.YtlgplhekiemeoaaDoorWF
import Derived.Laws.IdiomStrings
import Derived.Lib.SlFresh
namespace Go.Proofs.YtlgplhekiemeoaaDoor
open Go Go.RowKit Go.Lib WM

/-- The bytes r lie in block b from o on. -/
def BytesAt (b o : Nat) (r : List UInt8) (w : World) : Prop := ∀ j, j < r.length → w.cell? ⟨b, o + j, none⟩ = some (.int .u8 ((r.getD j 0).toNat : Int))
theorem BytesAt.keep {b o : Nat} {r : List UInt8} {w w' : World} (h : BytesAt b o r w) (hb : Below w.heap.size w w') : BytesAt b o r w' := by
  intro j hj
  have h1 := h j hj
  exact (hb.cell (p := ⟨b, o + j, none⟩) (World.block_lt_of_cell? w _ h1)).trans h1
theorem BytesAt.drop {b o : Nat} {r : List UInt8} {w : World} (h : BytesAt b o r w) (m : Nat) : BytesAt b (o + m) (r.drop m) w := by
  intro j hj
  rw [List.length_drop] at hj
  have h1 := h (m + j) (by omega)
  rw [Nat.add_assoc, h1]
  simp [List.getD, List.getElem?_drop]
theorem BytesAt.take {b o : Nat} {r : List UInt8} {w : World} (h : BytesAt b o r w) (m : Nat) : BytesAt b o (r.take m) w := by
  intro j hj
  rw [List.length_take] at hj
  have h1 := h j (by omega)
  rw [h1]
  have hm : j < m := by omega
  simp [List.getD, hm]
theorem BytesAt.nil (b o : Nat) (w : World) : BytesAt b o [] w := fun _ hj => absurd hj (Nat.not_lt_zero _)
theorem BytesAt.empty (b o : Nat) (w : World) {r : List UInt8} (h : r.length = 0) : BytesAt b o r w := fun _ hj => absurd hj (by omega)
/-- 'string(b)' of such bytes. -/
theorem conv_bytes (b o c : Nat) (r : List UInt8) (n : Nat) (hn : r.length = n) (w : World) (h : BytesAt b o r w) :
    (convert 43 9 (.slice (some ⟨b, o, none⟩) n c)).run Tryd.prog w = .ok (.string (str r)) w := by
  subst hn
  refine run_convert_bytes_back w 43 9 5 ⟨b, o, none⟩ c r Tryd.underlying43 Tryd.underlying5 Tryd.underlying9 fun j hj => ?_
  have h1 := h j hj
  have e : (⟨b, o, none⟩ : Addr).add j = ⟨b, o + j, none⟩ := by rw [Addr.add_lit]
  rw [e, h1]
  simp [List.getD, hj]
theorem midx (b o c : Nat) (r : List UInt8) (n : Nat) (hn : r.length = n) (w : World) (h : BytesAt b o r w) :
    Calls Tryd.prog 34 #[.slice (some ⟨b, o, none⟩) n c, .int .u8 58] w fun e w' => e = .returned (.int .i64 (if cpos r = n then -1 else (cpos r : Int))) ∧ w = w' := by
  subst hn
  refine (Tryd.bytes_IndexByte b o r.length c (numsL r) 58 w (numsL_length r) (fun i hi => ?_)).mono fun e w' ⟨he, hw⟩ => ⟨?_, hw.symm⟩
  · rw [h i hi]
    simp [numsL, List.getD, hi]
  · rw [he, bytesOf_numsL]
    have e58 : (58 : Int).toNat.toUInt8 = 58 := rfl
    rw [e58, indexByte_cpos]

/-- What cut gives where there is a text. -/
def GotCut (b : Nat) (r : List UInt8) (w : World) (e : Ending) (w' : World) : Prop :=
  ∃ fo fc oo oc, e = .returned (.tuple #[.slice (some ⟨b, fo, none⟩) (cutN r) fc, .slice (some ⟨b, oo, none⟩) (cutR r).length oc, .int .i64 0]) ∧ BytesAt b fo (cutX r) w' ∧ BytesAt b oo (cutR r) w' ∧ (cutR r).length ≤ oc ∧ oc ≤ 9223372036854775807 ∧ Below w.heap.size w w'

set_option maxRecDepth 100000 in
set_option maxHeartbeats 4000000 in
theorem mcut_no (b o c : Nat) (r : List UInt8) (n : Nat) (hn : r.length = n) (hk : cpos r = n) (w : World) (h : BytesAt b o r w) :
    Calls Tryd.prog 26 #[.slice (some ⟨b, o, none⟩) n c] w fun e w' => e = .returned (.tuple #[.slice none 0 0, .slice none 0 0, .int .i64 2]) ∧ Below w.heap.size w w' := by
  have I0 := fun W hW => midx b o c r n hn W hW
  rw [if_pos hk] at I0
  have HI := Lib.hid I0
  have HW := Lib.hid h
  clear h hk I0 hn
  go_enter Tryd.func26, Tryd.ntmps26
  go_wp2_with fail
  with_reducible refine (HI.out _ HW.out).mono ?_
  rintro e w1 ⟨rfl, rfl⟩
  go_wp2_with fail
  go_ret3
  exact ⟨rfl, bref _⟩

set_option maxRecDepth 100000 in
set_option maxHeartbeats 4000000 in
theorem mcut_bad1 (b o c : Nat) (r : List UInt8) (n : Nat) (hn : r.length = n) (hn1 : n ≤ 1000000) (hnc : n ≤ c) (hk : ¬ cpos r = n) (hb : tiE (hdL r) ≠ 0) (w : World) (hE : Er w) (h : BytesAt b o r w) :
    Calls Tryd.prog 26 #[.slice (some ⟨b, o, none⟩) n c] w fun e w' => e = .returned (.tuple #[.slice none 0 0, .slice none 0 0, .int .i64 2]) ∧ Below w.heap.size w w' := by
  have hkl := cpos_le r
  have I0 := fun W hW => midx b o c r n hn W hW
  rw [if_neg hk] at I0
  have hh := h.take (cpos r)
  have hcv := conv_bytes b o (cpos r) (hdL r) (cpos r) (hdL_len r) w hh
  have T0 := fun W hE => mtake (str (hdL r)) (by rw [str_size, hdL_len]; omega) W hE
  rw [str_list] at T0
  have hv : tiV (hdL r) = 0 := by unfold tiV; exact if_neg hb
  rw [hv] at T0
  obtain ⟨E, hE2⟩ : ∃ E, tiE (hdL r) = E := ⟨_, rfl⟩
  rw [hE2] at T0 hb
  have hbb : (E != 0) = true := by rw [bne_iff_ne]; exact hb
  obtain ⟨K, hK⟩ : ∃ K, cpos r = K := ⟨_, rfl⟩
  obtain ⟨S, hS⟩ : ∃ S, str (hdL r) = S := ⟨_, rfl⟩
  rw [hK] at I0 hcv hk
  rw [hS] at hcv T0
  have hKn : K < n := by omega
  have hk0 : (0 : Int) ≤ (K : Int) := by omega
  have hkz : (K : Int) ≤ (n : Int) := by omega
  have hkc : (K : Int) ≤ (c : Int) := by omega
  have HI := Lib.hid I0
  have HT := Lib.hid T0
  have HW := Lib.hid h
  have HE := Lib.hid hE
  clear h hk I0 T0 hE hh hS hK hkl hn hv hE2
  go_enter Tryd.func26, Tryd.ntmps26
  go_wp2_with fail
  with_reducible refine (HI.out _ HW.out).mono ?_
  rintro e w1 ⟨rfl, rfl⟩
  go_wp2_with fail
  with_reducible refine (HT.out _ HE.out).mono ?_
  rintro e w2 ⟨rfl, q2⟩
  have HQ := Lib.hid q2
  clear q2
  go_wp2_with fail
  go_ret3
  exact ⟨rfl, HQ.out⟩

set_option maxRecDepth 100000 in
set_option maxHeartbeats 4000000 in
theorem mcut_bad2 (b o c : Nat) (r : List UInt8) (n : Nat) (hn : r.length = n) (hn1 : n ≤ 1000000) (hnc : n ≤ c) (hk : ¬ cpos r = n) (hb : tiE (hdL r) = 0) (hv : tiV (hdL r) < 0) (w : World) (hE : Er w) (h : BytesAt b o r w) :
    Calls Tryd.prog 26 #[.slice (some ⟨b, o, none⟩) n c] w fun e w' => e = .returned (.tuple #[.slice none 0 0, .slice none 0 0, .int .i64 2]) ∧ Below w.heap.size w w' := by
  have hkl := cpos_le r
  have I0 := fun W hW => midx b o c r n hn W hW
  rw [if_neg hk] at I0
  have hh := h.take (cpos r)
  have hcv := conv_bytes b o (cpos r) (hdL r) (cpos r) (hdL_len r) w hh
  have T0 := fun W hE => mtake (str (hdL r)) (by rw [str_size, hdL_len]; omega) W hE
  rw [str_list] at T0
  obtain ⟨V, hV⟩ : ∃ V, tiV (hdL r) = V := ⟨_, rfl⟩
  rw [hb, hV] at T0
  rw [hV] at hv
  obtain ⟨K, hK⟩ : ∃ K, cpos r = K := ⟨_, rfl⟩
  obtain ⟨S, hS⟩ : ∃ S, str (hdL r) = S := ⟨_, rfl⟩
  rw [hK] at I0 hcv hk
  rw [hS] at hcv T0
  have hKn : K < n := by omega
  have hk0 : (0 : Int) ≤ (K : Int) := by omega
  have hkz : (K : Int) ≤ (n : Int) := by omega
  have hkc : (K : Int) ≤ (c : Int) := by omega
  have HI := Lib.hid I0
  have HT := Lib.hid T0
  have HW := Lib.hid h
  have HE := Lib.hid hE
  clear h hk I0 T0 hE hh hS hK hkl hn hV hb
  go_enter Tryd.func26, Tryd.ntmps26
  go_wp2_with fail
  with_reducible refine (HI.out _ HW.out).mono ?_
  rintro e w1 ⟨rfl, rfl⟩
  go_wp2_with fail
  with_reducible refine (HT.out _ HE.out).mono ?_
  rintro e w2 ⟨rfl, q2⟩
  have HQ := Lib.hid q2
  clear q2
  go_wp2_with fail
  go_ret3
  exact ⟨rfl, HQ.out⟩

set_option maxRecDepth 100000 in
set_option maxHeartbeats 4000000 in
theorem mcut_bad3 (b o c : Nat) (r : List UInt8) (n : Nat) (hn : r.length = n) (hn1 : n ≤ 1000000) (hnc : n ≤ c) (hk : ¬ cpos r = n) (hb : tiE (hdL r) = 0) (hv0 : ¬ tiV (hdL r) < 0) (hv : 16384 < tiV (hdL r)) (w : World) (hE : Er w) (h : BytesAt b o r w) :
    Calls Tryd.prog 26 #[.slice (some ⟨b, o, none⟩) n c] w fun e w' => e = .returned (.tuple #[.slice none 0 0, .slice none 0 0, .int .i64 2]) ∧ Below w.heap.size w w' := by
  have hkl := cpos_le r
  have I0 := fun W hW => midx b o c r n hn W hW
  rw [if_neg hk] at I0
  have hh := h.take (cpos r)
  have hcv := conv_bytes b o (cpos r) (hdL r) (cpos r) (hdL_len r) w hh
  have T0 := fun W hE => mtake (str (hdL r)) (by rw [str_size, hdL_len]; omega) W hE
  rw [str_list] at T0
  obtain ⟨V, hV⟩ : ∃ V, tiV (hdL r) = V := ⟨_, rfl⟩
  rw [hb, hV] at T0
  rw [hV] at hv hv0
  obtain ⟨K, hK⟩ : ∃ K, cpos r = K := ⟨_, rfl⟩
  obtain ⟨S, hS⟩ : ∃ S, str (hdL r) = S := ⟨_, rfl⟩
  rw [hK] at I0 hcv hk
  rw [hS] at hcv T0
  have hKn : K < n := by omega
  have hk0 : (0 : Int) ≤ (K : Int) := by omega
  have hkz : (K : Int) ≤ (n : Int) := by omega
  have hkc : (K : Int) ≤ (c : Int) := by omega
  have HI := Lib.hid I0
  have HT := Lib.hid T0
  have HW := Lib.hid h
  have HE := Lib.hid hE
  clear h hk I0 T0 hE hh hS hK hkl hn hV hb
  go_enter Tryd.func26, Tryd.ntmps26
  go_wp2_with fail
  with_reducible refine (HI.out _ HW.out).mono ?_
  rintro e w1 ⟨rfl, rfl⟩
  go_wp2_with fail
  with_reducible refine (HT.out _ HE.out).mono ?_
  rintro e w2 ⟨rfl, q2⟩
  have HQ := Lib.hid q2
  clear q2
  go_wp2_with fail
  go_ret3
  exact ⟨rfl, HQ.out⟩

set_option maxRecDepth 100000 in
set_option maxHeartbeats 4000000 in
theorem mcut_short (b o c : Nat) (r : List UInt8) (n : Nat) (hn : r.length = n) (hn1 : n ≤ 1000000) (hnc : n ≤ c) (hk : ¬ cpos r = n) (hb : lenB (hdL r) = true) (h2 : n < cpos r + 1 + cutN r) (w : World) (hE : Er w) (h : BytesAt b o r w) :
    Calls Tryd.prog 26 #[.slice (some ⟨b, o, none⟩) n c] w fun e w' => e = .returned (.tuple #[.slice none 0 0, .slice none 0 0, .int .i64 24]) ∧ Below w.heap.size w w' := by
  have hkl := cpos_le r
  have I0 := fun W hW => midx b o c r n hn W hW
  rw [if_neg hk] at I0
  have hh := h.take (cpos r)
  have hcv := conv_bytes b o (cpos r) (hdL r) (cpos r) (hdL_len r) w hh
  have T0 := fun W hE => mtake (str (hdL r)) (by rw [str_size, hdL_len]; omega) W hE
  rw [str_list] at T0
  obtain ⟨e1, e2, e3⟩ := lenB_iff hb
  have e4 : tiV (hdL r) = (cutN r : Int) := by unfold cutN; omega
  rw [e1, e4] at T0
  rw [e4] at e3
  obtain ⟨N, hN⟩ : ∃ N, cutN r = N := ⟨_, rfl⟩
  rw [hN] at T0 e3
  obtain ⟨K, hK⟩ : ∃ K, cpos r = K := ⟨_, rfl⟩
  obtain ⟨S, hS⟩ : ∃ S, str (hdL r) = S := ⟨_, rfl⟩
  rw [hK] at I0 hcv hk
  rw [hS] at hcv T0
  have hKn : K < n := by omega
  have hk0 : (0 : Int) ≤ (K : Int) := by omega
  have hkz : (K : Int) ≤ (n : Int) := by omega
  have hkc : (K : Int) ≤ (c : Int) := by omega
  have HI := Lib.hid I0
  have HT := Lib.hid T0
  have HW := Lib.hid h
  have HE := Lib.hid hE
  rw [hK, hN] at h2
  have hq : (n : Int) - ((K : Int) + 1) < (N : Int) := by omega
  clear h hk I0 T0 hE hh hS hK hkl hn e1 e2 e4 hb hN
  go_enter Tryd.func26, Tryd.ntmps26
  go_wp2_with fail
  with_reducible refine (HI.out _ HW.out).mono ?_
  rintro e w1 ⟨rfl, rfl⟩
  go_wp2_with fail
  with_reducible refine (HT.out _ HE.out).mono ?_
  rintro e w2 ⟨rfl, q2⟩
  have HQ := Lib.hid q2
  clear q2
  go_wp2_with fail
  go_ret3
  exact ⟨rfl, HQ.out⟩

set_option maxRecDepth 100000 in
set_option maxHeartbeats 4000000 in
theorem mcut_fine (b o c : Nat) (r : List UInt8) (n : Nat) (hn : r.length = n) (hn1 : n ≤ 1000000) (hnc : n ≤ c) (hk : ¬ cpos r = n) (hb : lenB (hdL r) = true) (h2 : ¬ n < cpos r + 1 + cutN r) (hc : c ≤ 9223372036854775807) (w : World) (hE : Er w) (h : BytesAt b o r w) :
    Calls Tryd.prog 26 #[.slice (some ⟨b, o, none⟩) n c] w (GotCut b r w) := by
  have hkl := cpos_le r
  have I0 := fun W hW => midx b o c r n hn W hW
  rw [if_neg hk] at I0
  have hh := h.take (cpos r)
  have hcv := conv_bytes b o (cpos r) (hdL r) (cpos r) (hdL_len r) w hh
  have T0 := fun W hE => mtake (str (hdL r)) (by rw [str_size, hdL_len]; omega) W hE
  rw [str_list] at T0
  obtain ⟨e1, e2, e3⟩ := lenB_iff hb
  have e4 : tiV (hdL r) = (cutN r : Int) := by unfold cutN; omega
  rw [e1, e4] at T0
  rw [e4] at e3
  obtain ⟨N, hN⟩ : ∃ N, cutN r = N := ⟨_, rfl⟩
  rw [hN] at T0 e3
  obtain ⟨K, hK⟩ : ∃ K, cpos r = K := ⟨_, rfl⟩
  obtain ⟨S, hS⟩ : ∃ S, str (hdL r) = S := ⟨_, rfl⟩
  rw [hK] at I0 hcv hk
  rw [hS] at hcv T0
  have hKn : K < n := by omega
  have hk0 : (0 : Int) ≤ (K : Int) := by omega
  have hkz : (K : Int) ≤ (n : Int) := by omega
  have hkc : (K : Int) ≤ (c : Int) := by omega
  have HI := Lib.hid I0
  have HT := Lib.hid T0
  have HW := Lib.hid h
  have HE := Lib.hid hE
  rw [hK, hN] at h2
  obtain ⟨B, hB⟩ : ∃ B, K + 1 = B := ⟨_, rfl⟩
  obtain ⟨M, hM⟩ : ∃ M, B + N = M := ⟨_, rfl⟩
  have hx : BytesAt b (o + B) (cutX r) w := by
    have := (h.drop B).take N
    rw [← hB, ← hN, ← hK] at this
    rw [← hB, ← hK]
    exact this
  have hr : BytesAt b (o + M) (cutR r) w := by
    have := h.drop M
    rw [← hM, ← hB, ← hN, ← hK] at this
    rw [← hM, ← hB, ← hN, ← hK]
    exact this
  have hrl : (cutR r).length = n - M := by rw [cutR_len, hn, hK, hN, hB, hM]
  have hxl : (cutX r).length = N := by unfold cutX; rw [List.length_take, List.length_drop, hn, hK, hN, hB]; omega
  have HX := Lib.hid hx
  have HR := Lib.hid hr
  have HRL := Lib.hid hrl
  have HXL := Lib.hid hxl
  have HNN := Lib.hid hN
  have s1 : (K : Int) + 1 = (B : Int) := by omega
  have s2 : (B : Int) + (N : Int) = (M : Int) := by omega
  have s3 : M ≤ n := by omega
  have s4 : (M : Int) - (B : Int) = (N : Int) := by omega
  have s5 : M - B = N := by omega
  have s6 : B ≤ M := by omega
  have hq : ¬ (n : Int) - (B : Int) < (N : Int) := by omega
  have s7 : (M : Int) ≤ (n : Int) := by omega
  have s8 : (B : Int) ≤ (M : Int) := by omega
  have s9 : (M : Int) ≤ (c : Int) := by omega
  clear h hk I0 T0 hE hh hS hK hkl hn e1 e2 e4 hb hN hB hM hx hr hrl hxl h2
  by_cases z1 : N = 0
  · have z3 : B = M := by omega
    subst z3
    subst z1
    simp only [Int.natCast_zero] at *
    by_cases z2 : c = B
    · obtain rfl : n = B := by omega
      subst z2
      go_enter Tryd.func26, Tryd.ntmps26
      go_wp2_with fail
      with_reducible refine (HI.out _ HW.out).mono ?_
      rintro e w1 ⟨rfl, rfl⟩
      go_wp2_with fail
      with_reducible refine (HT.out _ HE.out).mono ?_
      rintro e w2 ⟨rfl, q2⟩
      have HQ := Lib.hid q2
      clear q2
      go_wp2_with fail
      go_quiet (fail)
      go_wp2_with fail
      go_ret3
      have hz : (cutR r).length = 0 := by rw [HRL.out]; omega
      exact ⟨o, 0, o, 0, by rw [HNN.out, hz]; rfl, BytesAt.empty _ _ _ HXL.out, BytesAt.empty _ _ _ hz, by omega, by omega, bdn HQ.out _⟩
    · have s10 : B < c := by omega
      go_enter Tryd.func26, Tryd.ntmps26
      go_wp2_with fail
      with_reducible refine (HI.out _ HW.out).mono ?_
      rintro e w1 ⟨rfl, rfl⟩
      go_wp2_with fail
      with_reducible refine (HT.out _ HE.out).mono ?_
      rintro e w2 ⟨rfl, q2⟩
      have HQ := Lib.hid q2
      clear q2
      go_wp2_with fail
      go_quiet (fail)
      go_wp2_with fail
      go_ret3
      exact ⟨o, 0, o + B, c - B, by rw [HNN.out, HRL.out]; rfl, BytesAt.empty _ _ _ HXL.out, HR.out.keep (bdn HQ.out _), by rw [HRL.out]; omega, by omega, bdn HQ.out _⟩
  · have s11 : 0 < N := by omega
    by_cases z2 : c = M
    · obtain rfl : n = M := by omega
      subst z2
      go_enter Tryd.func26, Tryd.ntmps26
      go_wp2_with fail
      with_reducible refine (HI.out _ HW.out).mono ?_
      rintro e w1 ⟨rfl, rfl⟩
      go_wp2_with fail
      with_reducible refine (HT.out _ HE.out).mono ?_
      rintro e w2 ⟨rfl, q2⟩
      have HQ := Lib.hid q2
      clear q2
      go_wp2_with fail
      go_quiet (fail)
      go_wp2_with fail
      go_ret3
      have hz : (cutR r).length = 0 := by rw [HRL.out]; omega
      exact ⟨o + B, N, o, 0, by rw [HNN.out, hz]; rfl, HX.out.keep (bdn HQ.out _), BytesAt.empty _ _ _ hz, by omega, by omega, bdn HQ.out _⟩
    · have s10 : M < c := by omega
      go_enter Tryd.func26, Tryd.ntmps26
      go_wp2_with fail
      with_reducible refine (HI.out _ HW.out).mono ?_
      rintro e w1 ⟨rfl, rfl⟩
      go_wp2_with fail
      with_reducible refine (HT.out _ HE.out).mono ?_
      rintro e w2 ⟨rfl, q2⟩
      have HQ := Lib.hid q2
      clear q2
      go_wp2_with fail
      go_quiet (fail)
      go_wp2_with fail
      go_ret3
      exact ⟨o + B, N, o + M, c - M, by rw [HNN.out, HRL.out]; rfl, HX.out.keep (bdn HQ.out _), HR.out.keep (bdn HQ.out _), by rw [HRL.out]; omega, by omega, bdn HQ.out _⟩

/-- No text at the beginning: the error. -/
theorem mcut_err (b o c : Nat) (r : List UInt8) (n : Nat) (hn : r.length = n) (hn1 : n ≤ 1000000) (hnc : n ≤ c) (hc : cutE r ≠ 0) (w : World) (hE : Er w) (h : BytesAt b o r w) :
    Calls Tryd.prog 26 #[.slice (some ⟨b, o, none⟩) n c] w fun e w' => e = .returned (.tuple #[.slice none 0 0, .slice none 0 0, .int .i64 (cutE r)]) ∧ Below w.heap.size w w' := by
  by_cases hk : cpos r = n
  · rw [cut_no r (by rw [hn]; exact hk)]
    exact mcut_no b o c r n hn hk w h
  · cases hb : lenB (hdL r)
    · rw [cut_bad r hb]
      by_cases e1 : tiE (hdL r) = 0
      · by_cases e2 : tiV (hdL r) < 0
        · exact mcut_bad2 b o c r n hn hn1 hnc hk e1 e2 w hE h
        · refine mcut_bad3 b o c r n hn hn1 hnc hk e1 e2 ?_ w hE h
          unfold lenB at hb
          rw [decide_eq_false_iff_not] at hb
          omega
      · exact mcut_bad1 b o c r n hn hn1 hnc hk e1 w hE h
    · by_cases h2 : n < cpos r + 1 + cutN r
      · rw [cut_short r (by omega) hb (by omega)]
        exact mcut_short b o c r n hn hn1 hnc hk hb h2 w hE h
      · exact absurd (cut_fine r (by omega) hb (by omega)) hc
theorem mcut_ok (b o c : Nat) (r : List UInt8) (n : Nat) (hn : r.length = n) (hn1 : n ≤ 1000000) (hnc : n ≤ c) (hc : c ≤ 9223372036854775807) (hz : cutE r = 0) (w : World) (hE : Er w) (h : BytesAt b o r w) :
    Calls Tryd.prog 26 #[.slice (some ⟨b, o, none⟩) n c] w (GotCut b r w) := by
  obtain ⟨h1, h2, h3⟩ := cutE_zero hz
  exact mcut_fine b o c r n hn hn1 hnc (by omega) h2 (by omega) hc w hE h
end Go.Proofs.YtlgplhekiemeoaaDoor
