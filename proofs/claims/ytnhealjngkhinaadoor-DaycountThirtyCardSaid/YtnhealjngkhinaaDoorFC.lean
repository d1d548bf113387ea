/-
  Contracts of package daycount's Interest and of the document's own (gen_fc.py writes this text).
-/
import Derived.Test.YtnhealjngkhinaaDoorFB
namespace Go.Proofs.YtnhealjngkhinaaDoor
open Go Go.RowKit Go.Lib WM

theorem w_zero : wH 0 = 0 ∧ wL 0 = 0 := by decide +kernel
theorem in_w {a p b f t : Int} (h : okB a p b f t = true) : inW (a * p * smI b f t) = true := by
  have q := in_bd h
  rw [inW_iff]
  omega

set_option maxHeartbeats 4000000 in
theorem minterest (a p b f t : Int) (w : World) (hL : Ln w) :
    Calls Tryd.prog 28 #[.int .i64 a, .int .i64 p, .int .i64 b, .int .i64 f, .int .i64 t] w fun e w' =>
      e = .returned (.tuple #[.agg #[.int .i64 (wH (inV a p b f t)), .int .u64 (wL (inV a p b f t))], .int .i64 (inE a p b f t)]) ∧ Below w.heap.size w w' := by
  by_cases c0 : a < -1000000000000
  · skip
    have HR : Hid (wH (inV a p b f t) = 0 ∧ wL (inV a p b f t) = 0 ∧ inE a p b f t = 1) := Lib.hid (by
      obtain ⟨e1, e2⟩ := in_no (ok_not (a := a) (p := p) (b := b) (f := f) (t := t) (by rintro ⟨h1, h2, h3, h4, h5, h6, h7, h8, h9⟩; omega))
      rw [e1, e2]; exact ⟨w_zero.1, w_zero.2, rfl⟩)
    go_enter Tryd.func28, Tryd.ntmps28
    go_wp2_with fail
    refine bodyPost_ret (v := .tuple #[.agg #[.int .i64 0, .int .u64 0], .int .i64 1]) (by simp [results, Tryd.results28, go_sem]) rfl ⟨by rw [HR.out.1, HR.out.2.1, HR.out.2.2], ?_⟩
    (repeat (first | exact bref _ | refine bdr ?_ | refine bal ?_ _ | refine bset ?_ (by simp; done) _))
  by_cases c1 : 1000000000000 < a
  · skip
    have HR : Hid (wH (inV a p b f t) = 0 ∧ wL (inV a p b f t) = 0 ∧ inE a p b f t = 1) := Lib.hid (by
      obtain ⟨e1, e2⟩ := in_no (ok_not (a := a) (p := p) (b := b) (f := f) (t := t) (by rintro ⟨h1, h2, h3, h4, h5, h6, h7, h8, h9⟩; omega))
      rw [e1, e2]; exact ⟨w_zero.1, w_zero.2, rfl⟩)
    go_enter Tryd.func28, Tryd.ntmps28
    go_wp2_with fail
    refine bodyPost_ret (v := .tuple #[.agg #[.int .i64 0, .int .u64 0], .int .i64 1]) (by simp [results, Tryd.results28, go_sem]) rfl ⟨by rw [HR.out.1, HR.out.2.1, HR.out.2.2], ?_⟩
    (repeat (first | exact bref _ | refine bdr ?_ | refine bal ?_ _ | refine bset ?_ (by simp; done) _))
  by_cases c2 : p < 0
  · skip
    have HR : Hid (wH (inV a p b f t) = 0 ∧ wL (inV a p b f t) = 0 ∧ inE a p b f t = 1) := Lib.hid (by
      obtain ⟨e1, e2⟩ := in_no (ok_not (a := a) (p := p) (b := b) (f := f) (t := t) (by rintro ⟨h1, h2, h3, h4, h5, h6, h7, h8, h9⟩; omega))
      rw [e1, e2]; exact ⟨w_zero.1, w_zero.2, rfl⟩)
    go_enter Tryd.func28, Tryd.ntmps28
    go_wp2_with fail
    refine bodyPost_ret (v := .tuple #[.agg #[.int .i64 0, .int .u64 0], .int .i64 1]) (by simp [results, Tryd.results28, go_sem]) rfl ⟨by rw [HR.out.1, HR.out.2.1, HR.out.2.2], ?_⟩
    (repeat (first | exact bref _ | refine bdr ?_ | refine bal ?_ _ | refine bset ?_ (by simp; done) _))
  by_cases c3 : 1000000 < p
  · skip
    have HR : Hid (wH (inV a p b f t) = 0 ∧ wL (inV a p b f t) = 0 ∧ inE a p b f t = 1) := Lib.hid (by
      obtain ⟨e1, e2⟩ := in_no (ok_not (a := a) (p := p) (b := b) (f := f) (t := t) (by rintro ⟨h1, h2, h3, h4, h5, h6, h7, h8, h9⟩; omega))
      rw [e1, e2]; exact ⟨w_zero.1, w_zero.2, rfl⟩)
    go_enter Tryd.func28, Tryd.ntmps28
    go_wp2_with fail
    refine bodyPost_ret (v := .tuple #[.agg #[.int .i64 0, .int .u64 0], .int .i64 1]) (by simp [results, Tryd.results28, go_sem]) rfl ⟨by rw [HR.out.1, HR.out.2.1, HR.out.2.2], ?_⟩
    (repeat (first | exact bref _ | refine bdr ?_ | refine bal ?_ _ | refine bset ?_ (by simp; done) _))
  have a0 : -1000000000000 ≤ a := by omega
  have a1 : a ≤ 1000000000000 := by omega
  have p0 : 0 ≤ p := by omega
  have p1 : p ≤ 1000000 := by omega
  clear c0 c1 c2 c3
  have B := fun W => mbasis b W
  by_cases hb : 1 ≤ b ∧ b ≤ 4
  rotate_left
  · have e : bsB b = false := by unfold bsB; simp only [decide_eq_false_iff_not]; exact hb
    simp only [e] at B
    have HR : Hid (wH (inV a p b f t) = 0 ∧ wL (inV a p b f t) = 0 ∧ inE a p b f t = 1) := Lib.hid (by
      obtain ⟨e1, e2⟩ := in_no (ok_not (a := a) (p := p) (b := b) (f := f) (t := t) (by rintro ⟨h1, h2, h3, h4, h5, h6, h7, h8, h9⟩; omega))
      rw [e1, e2]; exact ⟨w_zero.1, w_zero.2, rfl⟩)
    have B := Lib.hid B
    clear e hb
    go_enter Tryd.func28, Tryd.ntmps28
    go_wp2_with fail
    refine (B.out _).mono ?_
    rintro e w1 ⟨rfl, rfl⟩
    go_wp2_with fail
    refine bodyPost_ret (v := .tuple #[.agg #[.int .i64 0, .int .u64 0], .int .i64 1]) (by simp [results, Tryd.results28, go_sem]) rfl ⟨by rw [HR.out.1, HR.out.2.1, HR.out.2.2], ?_⟩
    (repeat (first | exact bref _ | refine bdr ?_ | refine bal ?_ _ | refine bset ?_ (by simp; done) _))
  have e : bsB b = true := by unfold bsB; simp only [decide_eq_true_eq]; exact hb
  simp only [e] at B
  have B := Lib.hid B
  obtain ⟨b0, b1⟩ := hb
  clear e
  have SP := fun W => mspan f t W
  cases hs : spB f t
  · have hn : ¬ (vdB f = true ∧ vdB t = true ∧ f ≤ t) := fun k => by rw [(sp_iff f t).2 k] at hs; cases hs
    simp only [hs] at SP
    have HR : Hid (wH (inV a p b f t) = 0 ∧ wL (inV a p b f t) = 0 ∧ inE a p b f t = 1) := Lib.hid (by
      obtain ⟨e1, e2⟩ := in_no (ok_not (a := a) (p := p) (b := b) (f := f) (t := t) (by rintro ⟨h1, h2, h3, h4, h5, h6, h7, h8, h9⟩; exact hn ⟨h7, h8, h9⟩))
      rw [e1, e2]; exact ⟨w_zero.1, w_zero.2, rfl⟩)
    have SP := Lib.hid SP
    clear hs hn
    go_enter Tryd.func28, Tryd.ntmps28
    go_wp2_with fail
    refine (B.out _).mono ?_
    rintro e w1 ⟨rfl, rfl⟩
    go_wp2_with fail
    refine (SP.out _).mono ?_
    rintro e w1 ⟨rfl, rfl⟩
    go_wp2_with fail
    refine bodyPost_ret (v := .tuple #[.agg #[.int .i64 0, .int .u64 0], .int .i64 1]) (by simp [results, Tryd.results28, go_sem]) rfl ⟨by rw [HR.out.1, HR.out.2.1, HR.out.2.2], ?_⟩
    (repeat (first | exact bref _ | refine bdr ?_ | refine bal ?_ _ | refine bset ?_ (by simp; done) _))
  obtain ⟨hf, ht, hle⟩ := (sp_iff f t).1 hs
  simp only [hs] at SP
  have SP := Lib.hid SP
  have OK := (ok_iff a p b f t).2 ⟨a0, a1, p0, p1, b0, b1, hf, ht, hle⟩
  have HIN := in_w OK
  obtain ⟨m0, m1, _, _⟩ := in_bd OK
  obtain ⟨s0, s1⟩ := smI_bd b f t
  have M := fun W => mul_any a p (by unfold I64; omega) (by unfold I64; omega) W
  have hM : I64 (a * p) := by unfold I64; omega
  have SU := fun W hW => msum b f t W hW
  have SC := fun W => scale_any (wH (a * p)) (wL (a * p)) (smI b f t) (wH_I64 _) (wL_U64 _) (by unfold I64; omega) W
  rw [val_w (inW_I64 hM)] at SC
  rw [wE_in HIN] at SC
  have HR : Hid (inV a p b f t = a * p * smI b f t ∧ inE a p b f t = 0) := Lib.hid (in_yes OK)
  obtain ⟨S, hS⟩ : ∃ S, smI b f t = S := ⟨_, rfl⟩
  simp only [hS] at SU SC
  rw [hS] at HR
  have M := Lib.hid M; have SU := Lib.hid SU; have SC := Lib.hid SC
  clear hs hf ht OK HIN hM hS m0 m1 s0 s1
  go_enter Tryd.func28, Tryd.ntmps28
  go_wp2_with fail
  refine (B.out _).mono ?_
  rintro e w1 ⟨rfl, rfl⟩
  go_wp2_with fail
  refine (SP.out _).mono ?_
  rintro e w1 ⟨rfl, rfl⟩
  go_wp2_with fail
  refine (M.out _).mono ?_
  rintro e w1 ⟨rfl, q1⟩
  have R1 : Own w1 w.heap.size (.int .i64 0) (.int .u64 0) := Own.keep (by refine ⟨?_, ?_, ?_, ?_⟩ <;> simp [go_sem]) q1
  have Z1 : Below w.heap.size w w1 := btr (by repeat (first | exact bref _ | refine bal ?_ _)) q1
  clear q1
  go_wp2_with fail
  refine (SU.out _ (hL.keep Z1)).mono ?_
  rintro e w2 ⟨rfl, rfl⟩
  go_wp2_with fail
  refine (SC.out _).mono ?_
  rintro e w3 ⟨rfl, q3⟩
  have R3 := Own.keep R1 q3
  have Z3 : Below w.heap.size w w3 := btr Z1 q3
  clear R1 Z1 q3
  obtain ⟨r0, r1, r2, r3⟩ := R3
  go_wp2_with fail
  refine bodyPost_ret (v := .tuple #[.agg #[.int .i64 (wH (a * p * S)), .int .u64 (wL (a * p * S))], .int .i64 0]) (by simp [results, Tryd.results28, go_sem, r0, r1]) rfl ⟨by rw [HR.out.1, HR.out.2], ?_⟩
  (repeat (first | exact Z3 | refine bdr ?_ | refine bal ?_ _ | refine bset ?_ (by simp; done) _))

set_option maxHeartbeats 4000000 in
theorem rinterest (a p b f t : Int) (w : World) :
    Calls Tryd.prog 29 #[.int .i64 a, .int .i64 p, .int .i64 b, .int .i64 f, .int .i64 t] w fun e w' =>
      e = .returned (.tuple #[.agg #[.int .i64 (wH (inV a p b f t)), .int .u64 (wL (inV a p b f t))], .int .i64 (inE a p b f t)]) ∧ Below w.heap.size w w' := by
  by_cases c0 : a < -1000000000000
  · skip
    have HR : Hid (wH (inV a p b f t) = 0 ∧ wL (inV a p b f t) = 0 ∧ inE a p b f t = 1) := Lib.hid (by
      obtain ⟨e1, e2⟩ := in_no (ok_not (a := a) (p := p) (b := b) (f := f) (t := t) (by rintro ⟨h1, h2, h3, h4, h5, h6, h7, h8, h9⟩; omega))
      rw [e1, e2]; exact ⟨w_zero.1, w_zero.2, rfl⟩)
    go_enter Tryd.func29, Tryd.ntmps29
    go_wp2_with fail
    refine bodyPost_ret (v := .tuple #[.agg #[.int .i64 0, .int .u64 0], .int .i64 1]) (by simp [results, Tryd.results29, go_sem]) rfl ⟨by rw [HR.out.1, HR.out.2.1, HR.out.2.2], ?_⟩
    (repeat (first | exact bref _ | refine bdr ?_ | refine bal ?_ _ | refine bset ?_ (by simp; done) _))
  by_cases c1 : 1000000000000 < a
  · skip
    have HR : Hid (wH (inV a p b f t) = 0 ∧ wL (inV a p b f t) = 0 ∧ inE a p b f t = 1) := Lib.hid (by
      obtain ⟨e1, e2⟩ := in_no (ok_not (a := a) (p := p) (b := b) (f := f) (t := t) (by rintro ⟨h1, h2, h3, h4, h5, h6, h7, h8, h9⟩; omega))
      rw [e1, e2]; exact ⟨w_zero.1, w_zero.2, rfl⟩)
    go_enter Tryd.func29, Tryd.ntmps29
    go_wp2_with fail
    refine bodyPost_ret (v := .tuple #[.agg #[.int .i64 0, .int .u64 0], .int .i64 1]) (by simp [results, Tryd.results29, go_sem]) rfl ⟨by rw [HR.out.1, HR.out.2.1, HR.out.2.2], ?_⟩
    (repeat (first | exact bref _ | refine bdr ?_ | refine bal ?_ _ | refine bset ?_ (by simp; done) _))
  by_cases c2 : p < 0
  · skip
    have HR : Hid (wH (inV a p b f t) = 0 ∧ wL (inV a p b f t) = 0 ∧ inE a p b f t = 1) := Lib.hid (by
      obtain ⟨e1, e2⟩ := in_no (ok_not (a := a) (p := p) (b := b) (f := f) (t := t) (by rintro ⟨h1, h2, h3, h4, h5, h6, h7, h8, h9⟩; omega))
      rw [e1, e2]; exact ⟨w_zero.1, w_zero.2, rfl⟩)
    go_enter Tryd.func29, Tryd.ntmps29
    go_wp2_with fail
    refine bodyPost_ret (v := .tuple #[.agg #[.int .i64 0, .int .u64 0], .int .i64 1]) (by simp [results, Tryd.results29, go_sem]) rfl ⟨by rw [HR.out.1, HR.out.2.1, HR.out.2.2], ?_⟩
    (repeat (first | exact bref _ | refine bdr ?_ | refine bal ?_ _ | refine bset ?_ (by simp; done) _))
  by_cases c3 : 1000000 < p
  · skip
    have HR : Hid (wH (inV a p b f t) = 0 ∧ wL (inV a p b f t) = 0 ∧ inE a p b f t = 1) := Lib.hid (by
      obtain ⟨e1, e2⟩ := in_no (ok_not (a := a) (p := p) (b := b) (f := f) (t := t) (by rintro ⟨h1, h2, h3, h4, h5, h6, h7, h8, h9⟩; omega))
      rw [e1, e2]; exact ⟨w_zero.1, w_zero.2, rfl⟩)
    go_enter Tryd.func29, Tryd.ntmps29
    go_wp2_with fail
    refine bodyPost_ret (v := .tuple #[.agg #[.int .i64 0, .int .u64 0], .int .i64 1]) (by simp [results, Tryd.results29, go_sem]) rfl ⟨by rw [HR.out.1, HR.out.2.1, HR.out.2.2], ?_⟩
    (repeat (first | exact bref _ | refine bdr ?_ | refine bal ?_ _ | refine bset ?_ (by simp; done) _))
  have a0 : -1000000000000 ≤ a := by omega
  have a1 : a ≤ 1000000000000 := by omega
  have p0 : 0 ≤ p := by omega
  have p1 : p ≤ 1000000 := by omega
  clear c0 c1 c2 c3
  have B := fun W => rbasis b W
  by_cases hb : 1 ≤ b ∧ b ≤ 4
  rotate_left
  · have e : bsB b = false := by unfold bsB; simp only [decide_eq_false_iff_not]; exact hb
    simp only [e] at B
    have HR : Hid (wH (inV a p b f t) = 0 ∧ wL (inV a p b f t) = 0 ∧ inE a p b f t = 1) := Lib.hid (by
      obtain ⟨e1, e2⟩ := in_no (ok_not (a := a) (p := p) (b := b) (f := f) (t := t) (by rintro ⟨h1, h2, h3, h4, h5, h6, h7, h8, h9⟩; omega))
      rw [e1, e2]; exact ⟨w_zero.1, w_zero.2, rfl⟩)
    have B := Lib.hid B
    clear e hb
    go_enter Tryd.func29, Tryd.ntmps29
    go_wp2_with fail
    refine (B.out _).mono ?_
    rintro e w1 ⟨rfl, rfl⟩
    go_wp2_with fail
    refine bodyPost_ret (v := .tuple #[.agg #[.int .i64 0, .int .u64 0], .int .i64 1]) (by simp [results, Tryd.results29, go_sem]) rfl ⟨by rw [HR.out.1, HR.out.2.1, HR.out.2.2], ?_⟩
    (repeat (first | exact bref _ | refine bdr ?_ | refine bal ?_ _ | refine bset ?_ (by simp; done) _))
  have e : bsB b = true := by unfold bsB; simp only [decide_eq_true_eq]; exact hb
  simp only [e] at B
  have B := Lib.hid B
  obtain ⟨b0, b1⟩ := hb
  clear e
  have VF := fun W => rvalid f W
  have VT := fun W => rvalid t W
  cases hf : vdB f
  · simp only [hf] at VF
    have HR : Hid (wH (inV a p b f t) = 0 ∧ wL (inV a p b f t) = 0 ∧ inE a p b f t = 1) := Lib.hid (by
      obtain ⟨e1, e2⟩ := in_no (ok_not (a := a) (p := p) (b := b) (f := f) (t := t) (by rintro ⟨h1, h2, h3, h4, h5, h6, h7, h8, h9⟩; rw [hf] at h7; cases h7))
      rw [e1, e2]; exact ⟨w_zero.1, w_zero.2, rfl⟩)
    have VF := Lib.hid VF; have VT := Lib.hid VT
    clear hf
    go_enter Tryd.func29, Tryd.ntmps29
    go_wp2_with fail
    refine (B.out _).mono ?_
    rintro e w1 ⟨rfl, rfl⟩
    go_wp2_with fail
    refine (VF.out _).mono ?_
    rintro e w1 ⟨rfl, rfl⟩
    go_wp2_with fail
    refine bodyPost_ret (v := .tuple #[.agg #[.int .i64 0, .int .u64 0], .int .i64 1]) (by simp [results, Tryd.results29, go_sem]) rfl ⟨by rw [HR.out.1, HR.out.2.1, HR.out.2.2], ?_⟩
    (repeat (first | exact bref _ | refine bdr ?_ | refine bal ?_ _ | refine bset ?_ (by simp; done) _))
  simp only [hf] at VF
  have VF := Lib.hid VF
  cases ht : vdB t
  · simp only [ht] at VT
    have HR : Hid (wH (inV a p b f t) = 0 ∧ wL (inV a p b f t) = 0 ∧ inE a p b f t = 1) := Lib.hid (by
      obtain ⟨e1, e2⟩ := in_no (ok_not (a := a) (p := p) (b := b) (f := f) (t := t) (by rintro ⟨h1, h2, h3, h4, h5, h6, h7, h8, h9⟩; rw [ht] at h8; cases h8))
      rw [e1, e2]; exact ⟨w_zero.1, w_zero.2, rfl⟩)
    have VT := Lib.hid VT
    clear hf ht
    go_enter Tryd.func29, Tryd.ntmps29
    go_wp2_with fail
    refine (B.out _).mono ?_
    rintro e w1 ⟨rfl, rfl⟩
    go_wp2_with fail
    refine (VF.out _).mono ?_
    rintro e w1 ⟨rfl, rfl⟩
    go_wp2_with fail
    refine (VT.out _).mono ?_
    rintro e w1 ⟨rfl, rfl⟩
    go_wp2_with fail
    refine bodyPost_ret (v := .tuple #[.agg #[.int .i64 0, .int .u64 0], .int .i64 1]) (by simp [results, Tryd.results29, go_sem]) rfl ⟨by rw [HR.out.1, HR.out.2.1, HR.out.2.2], ?_⟩
    (repeat (first | exact bref _ | refine bdr ?_ | refine bal ?_ _ | refine bset ?_ (by simp; done) _))
  simp only [ht] at VT
  have VT := Lib.hid VT
  by_cases hle : f ≤ t
  rotate_left
  · have hlt : t < f := by omega
    have HR : Hid (wH (inV a p b f t) = 0 ∧ wL (inV a p b f t) = 0 ∧ inE a p b f t = 1) := Lib.hid (by
      obtain ⟨e1, e2⟩ := in_no (ok_not (a := a) (p := p) (b := b) (f := f) (t := t) (by rintro ⟨h1, h2, h3, h4, h5, h6, h7, h8, h9⟩; omega))
      rw [e1, e2]; exact ⟨w_zero.1, w_zero.2, rfl⟩)
    clear hf ht hle
    go_enter Tryd.func29, Tryd.ntmps29
    go_wp2_with fail
    refine (B.out _).mono ?_
    rintro e w1 ⟨rfl, rfl⟩
    go_wp2_with fail
    refine (VF.out _).mono ?_
    rintro e w1 ⟨rfl, rfl⟩
    go_wp2_with fail
    refine (VT.out _).mono ?_
    rintro e w1 ⟨rfl, rfl⟩
    go_wp2_with fail
    refine bodyPost_ret (v := .tuple #[.agg #[.int .i64 0, .int .u64 0], .int .i64 1]) (by simp [results, Tryd.results29, go_sem]) rfl ⟨by rw [HR.out.1, HR.out.2.1, HR.out.2.2], ?_⟩
    (repeat (first | exact bref _ | refine bdr ?_ | refine bal ?_ _ | refine bset ?_ (by simp; done) _))
  have OK := (ok_iff a p b f t).2 ⟨a0, a1, p0, p1, b0, b1, hf, ht, hle⟩
  have HIN := in_w OK
  obtain ⟨m0, m1, _, _⟩ := in_bd OK
  obtain ⟨s0, s1⟩ := smI_bd b f t
  have M := fun W => rmul_any a p (by unfold I64; omega) (by unfold I64; omega) W
  have hM : I64 (a * p) := by unfold I64; omega
  have SU := fun W => rsum b f t W
  have SC := fun W => rscale_any (wH (a * p)) (wL (a * p)) (smI b f t) (wH_I64 _) (wL_U64 _) (by unfold I64; omega) W
  rw [val_w (inW_I64 hM)] at SC
  rw [wE_in HIN] at SC
  have HR : Hid (inV a p b f t = a * p * smI b f t ∧ inE a p b f t = 0) := Lib.hid (in_yes OK)
  obtain ⟨S, hS⟩ : ∃ S, smI b f t = S := ⟨_, rfl⟩
  simp only [hS] at SU SC
  rw [hS] at HR
  have M := Lib.hid M; have SU := Lib.hid SU; have SC := Lib.hid SC
  clear hf ht OK HIN hM hS m0 m1 s0 s1
  go_enter Tryd.func29, Tryd.ntmps29
  go_wp2_with fail
  refine (B.out _).mono ?_
  rintro e w1 ⟨rfl, rfl⟩
  go_wp2_with fail
  refine (VF.out _).mono ?_
  rintro e w1 ⟨rfl, rfl⟩
  go_wp2_with fail
  refine (VT.out _).mono ?_
  rintro e w1 ⟨rfl, rfl⟩
  go_wp2_with fail
  refine (M.out _).mono ?_
  rintro e w1 ⟨rfl, q1⟩
  have R1 : Own w1 w.heap.size (.int .i64 0) (.int .u64 0) := Own.keep (by refine ⟨?_, ?_, ?_, ?_⟩ <;> simp [go_sem]) q1
  have Z1 : Below w.heap.size w w1 := btr (by repeat (first | exact bref _ | refine bal ?_ _)) q1
  clear q1
  go_wp2_with fail
  refine (SU.out _).mono ?_
  rintro e w2 ⟨rfl, rfl⟩
  go_wp2_with fail
  refine (SC.out _).mono ?_
  rintro e w3 ⟨rfl, q3⟩
  have R3 := Own.keep R1 q3
  have Z3 : Below w.heap.size w w3 := btr Z1 q3
  clear R1 Z1 q3
  obtain ⟨r0, r1, r2, r3⟩ := R3
  go_wp2_with fail
  refine bodyPost_ret (v := .tuple #[.agg #[.int .i64 (wH (a * p * S)), .int .u64 (wL (a * p * S))], .int .i64 0]) (by simp [results, Tryd.results29, go_sem, r0, r1]) rfl ⟨by rw [HR.out.1, HR.out.2], ?_⟩
  (repeat (first | exact Z3 | refine bdr ?_ | refine bal ?_ _ | refine bset ?_ (by simp; done) _))

end Go.Proofs.YtnhealjngkhinaaDoor
