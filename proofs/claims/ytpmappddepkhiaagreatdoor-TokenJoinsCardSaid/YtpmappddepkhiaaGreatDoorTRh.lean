/-
  The walk of the law of tokens joined.
-/
import Derived.Test.YtpmappddepkhiaaGreatDoorTRg
import Derived.Test.YtpmappddepkhiaaGreatDoorTRe
namespace Go.Proofs.YtpmappddepkhiaaGreatDoor
open Go Go.RowKit Go.Lib WM TM

theorem sh_ok2 {l : List TM.Tok} (h : shB l = true) (hi : ∀ t ∈ l, I64 t.1 ∧ I64 t.2.1) : TokOk l ∧ l.length ≤ 300 := by
  unfold shB at h
  rw [Bool.and_eq_true, decide_eq_true_eq, List.all_eq_true] at h
  refine ⟨fun t ht => ?_, h.1⟩
  have h1 := h.2 t ht
  rw [decide_eq_true_eq] at h1
  exact ⟨(hi t ht).2, (hi t ht).1, by omega⟩

set_option maxRecDepth 100000 in
set_option maxHeartbeats 8000000 in
theorem tokenJoins (ao : Option Addr) (l : List TM.Tok) (c : Nat) (hok : ∀ t ∈ l, I64 t.1 ∧ I64 t.2.1) (w : World) (hG : Gd w) (h : TokensAt ao l w) :
    Calls Tryz.prog 4 #[.slice ao l.length c] w fun e w' => e = .returned (.bool true) ∧ Below w.heap.size w w' := by
  have HG := Lib.hid hG
  have LV := Lib.hid (fun W h => live_any W h)
  have HB0 := Lib.hid (bref w)
  have HA := Lib.hid h
  have S1 := fun W hA => mshort ao l c W hA
  obtain ⟨n, hn⟩ : ∃ n, l.length = n := ⟨_, rfl⟩
  rw [hn] at S1 ⊢
  cases hsh : shB l
  · rw [hsh] at S1
    have S2 := Lib.hid S1
    clear hG h hok S1 hn hsh
    go_enter Tryz.func4, Tryz.ntmps4
    go_wp2_with fail
    with_reducible refine (S2.out _ HA.out).mono ?_
    rintro e wz ⟨rfl, rfl⟩
    go_wp2_with fail
    with_reducible refine (LV.out _ (HG.out.keep HB0.out)).mono ?_
    rintro e w1 ⟨rfl, q1⟩
    have HB1 := Lib.hid (btr HB0.out q1)
    clear q1
    go_wp2_with fail
    go_ret
    exact ⟨rfl, HB1.out⟩
  · rw [hsh] at S1
    have S2 := Lib.hid S1
    obtain ⟨hTok, hl300⟩ := sh_ok2 hsh hok
    have J1 := fun W hM hE hA => mjoin ao l c (by omega) hTok W hM hE hA
    have R1 := fun W hA => rjoin ao l c (by omega) hTok W hA
    rw [hn] at J1 R1
    obtain ⟨E, hE⟩ : ∃ E, jE l = E := ⟨_, rfl⟩
    obtain ⟨V, hV⟩ : ∃ V, str (jV l) = V := ⟨_, rfl⟩
    rw [hE, hV] at J1 R1
    have J2 := Lib.hid J1
    have R2 := Lib.hid R1
    clear hG h hok S1 hTok hl300 J1 R1 hE hV hn hsh
    go_enter Tryz.func4, Tryz.ntmps4
    go_wp2_with fail
    with_reducible refine (S2.out _ HA.out).mono ?_
    rintro e wz ⟨rfl, rfl⟩
    go_wp2_with fail
    with_reducible refine (J2.out _ (HG.out.keep HB0.out).m (HG.out.keep HB0.out).e HA.out).mono ?_
    rintro e w1 ⟨rfl, q1⟩
    have HB1 := Lib.hid (btr HB0.out q1)
    have HA1 := Lib.hid (HA.out.keep q1)
    clear q1
    go_wp2_with fail
    with_reducible refine (R2.out _ HA1.out).mono ?_
    rintro e w2 ⟨rfl, q2⟩
    have HB2 := Lib.hid (btr HB1.out q2)
    clear q2
    go_wp2_with fail
    with_reducible refine (LV.out _ (HG.out.keep HB2.out)).mono ?_
    rintro e w3 ⟨rfl, q3⟩
    have HB3 := Lib.hid (btr HB2.out q3)
    clear q3
    go_wp2_with fail
    go_ret
    exact ⟨rfl, HB3.out⟩
end Go.Proofs.YtpmappddepkhiaaGreatDoor
