/-
  The chapter's examples: plain, and the law's lives.
-/
import Derived.Test.YtpmappddepkhiaaGreatDoorTQ
import Derived.Test.YtpmappddepkhiaaGreatDoorTU
namespace Go.Proofs.YtpmappddepkhiaaGreatDoor
open Go Go.RowKit Go.Lib WM TM

/-- What lies as the program's text lays it: the marks, the error of the range, the powers of ten. -/
def Gd (w : World) : Prop := Mk w ∧ Er w ∧ Tb w
theorem Gd.keep {w w' : World} (h : Gd w) (hb : Below w.heap.size w w') : Gd w' := ⟨h.1.keep hb, h.2.1.keep hb, h.2.2.keep hb⟩
def L1 : List Tok := [(5, 1, [102, 101, 101]), (1, 1, [120, 49]), (4, 2, [60, 61]), (2, 2, [49, 50]), (3, 2, [49, 46, 53, 37])]
theorem ex_tok : TZ [102, 101, 101, 32, 32, 120, 49, 32, 35, 32, 111, 110, 101, 10, 60, 61, 32, 49, 50, 32, 49, 46, 53, 37] = (L1, 0, 0) := by decide +kernel
theorem ex_join : jE L1 = 0 ∧ jV L1 = [102, 101, 101, 32, 120, 49, 10, 60, 61, 32, 49, 50, 32, 49, 46, 53, 37] := by decide +kernel
theorem ex_bad : TZ [97, 10, 48, 49] = ([], 2, 2) := by decide +kernel
theorem ex_rate : rE [48, 46, 48, 48, 48, 49, 37] = 0 ∧ rV [48, 46, 48, 48, 48, 49, 37] = 1 := by decide +kernel
theorem ex_pct : pE 1000000 = 0 ∧ pV 1000000 = [49, 48, 48, 37] := by decide +kernel
theorem ex_word : wrd [104, 97, 108, 102, 95, 101, 118, 101, 110] = true := by decide +kernel
theorem ex_ok : TokOk L1 := by
  have h := TZ_ok (l := [102, 101, 101, 32, 32, 120, 49, 32, 35, 32, 111, 110, 101, 10, 60, 61, 32, 49, 50, 32, 49, 46, 53, 37])
  rw [ex_tok] at h
  exact h.1
theorem toks_new (W : World) (l : List Tok) (t : TypeId) : TokensAt (some ⟨W.heap.size, 0, none⟩) l (W.alloc (.cells (toks l).toArray t)) := by
  intro i hi
  obtain ⟨t1, t2, t3⟩ := toks_at l i hi
  have key : ∀ (j : Nat) (x : Value), (toks l)[j]? = some x → (W.alloc (.cells (toks l).toArray t)).cell? ⟨W.heap.size, 0 + j, none⟩ = some x := by
    intro j x hx
    rw [Nat.zero_add, cell_of_row _ _ j _ _ (0, 0) (heap_alloc_new W _)]
    simpa using hx
  exact ⟨W.heap.size, 0, rfl, by simp, key _ _ t1, key _ _ t2, key _ _ t3⟩

set_option maxRecDepth 100000 in
set_option maxHeartbeats 8000000 in
theorem live_any (w : World) (hG : Gd w) :
    Calls Tryz.prog 5 #[] w fun e w' => e = .returned (.bool true) ∧ Below w.heap.size w w' := by
  have C1 : Hid (∀ W, Gd W → Calls Tryz.prog 6 #[.string ⟨#[102, 101, 101, 32, 32, 120, 49, 32, 35, 32, 111, 110, 101, 10, 60, 61, 32, 49, 50, 32, 49, 46, 53, 37]⟩] W fun e w' => ∃ ao c, e = .returned (.tuple #[.slice ao 5 c, .int .i64 0, .int .i64 0]) ∧ TokensAt ao L1 w' ∧ Below W.heap.size W w') := Lib.hid (fun W h => by
    have h1 := mtokenize ⟨#[102, 101, 101, 32, 32, 120, 49, 32, 35, 32, 111, 110, 101, 10, 60, 61, 32, 49, 50, 32, 49, 46, 53, 37]⟩ W h.1 h.2.1
    rw [show byt ⟨#[102, 101, 101, 32, 32, 120, 49, 32, 35, 32, 111, 110, 101, 10, 60, 61, 32, 49, 50, 32, 49, 46, 53, 37]⟩ = [102, 101, 101, 32, 32, 120, 49, 32, 35, 32, 111, 110, 101, 10, 60, 61, 32, 49, 50, 32, 49, 46, 53, 37] from rfl, ex_tok] at h1
    exact h1)
  have C2 : Hid (∀ ao c W, Gd W → TokensAt ao L1 W → Calls Tryz.prog 10 #[.slice ao 5 c] W fun e w' => e = .returned (.tuple #[.string ⟨#[102, 101, 101, 32, 120, 49, 10, 60, 61, 32, 49, 50, 32, 49, 46, 53, 37]⟩, .int .i64 0]) ∧ Below W.heap.size W w') := Lib.hid (fun ao c W h h2 => by
    have h1 := mjoin ao L1 c (by decide) ex_ok W h.1 h.2.1 h2
    rw [ex_join.1, ex_join.2] at h1
    exact h1)
  have C3 : Hid (∀ W, Gd W → Calls Tryz.prog 6 #[.string ⟨#[97, 10, 48, 49]⟩] W fun e w' => ∃ ao c, e = .returned (.tuple #[.slice ao 0 c, .int .i64 2, .int .i64 2]) ∧ TokensAt ao [] w' ∧ Below W.heap.size W w') := Lib.hid (fun W h => by
    have h1 := mtokenize ⟨#[97, 10, 48, 49]⟩ W h.1 h.2.1
    rw [show byt ⟨#[97, 10, 48, 49]⟩ = [97, 10, 48, 49] from rfl, ex_bad] at h1
    exact h1)
  have C4 : Hid (∀ W, Gd W → Calls Tryz.prog 12 #[.string ⟨#[48, 46, 48, 48, 48, 49, 37]⟩] W fun e w' => e = .returned (.tuple #[.int .i64 1, .int .i64 0]) ∧ Below W.heap.size W w') := Lib.hid (fun W h => by
    have h1 := mrate ⟨#[48, 46, 48, 48, 48, 49, 37]⟩ (by decide) W h.2.1
    rw [show byt ⟨#[48, 46, 48, 48, 48, 49, 37]⟩ = [48, 46, 48, 48, 48, 49, 37] from rfl, ex_rate.1, ex_rate.2] at h1
    exact h1)
  have C5 : Hid (∀ W, Gd W → Calls Tryz.prog 13 #[.int .i64 1000000] W fun e w' => e = .returned (.tuple #[.string ⟨#[49, 48, 48, 37]⟩, .int .i64 0]) ∧ Below W.heap.size W w') := Lib.hid (fun W h => by
    have h1 := mpercent 1000000 W h.2.2
    rw [ex_pct.1, ex_pct.2] at h1
    exact h1)
  have C6 : Hid (∀ ao bo ca cb W, TokensAt ao L1 W → TokensAt bo L1 W → Calls Tryz.prog 8 #[.slice ao 5 ca, .slice bo 5 cb] W fun e w' => e = .returned (.bool true) ∧ Below W.heap.size W w') := Lib.hid (fun ao bo ca cb W h h2 => rsame ao bo L1 ca cb (by decide) W h h2)
  have C7 : Hid (∀ W, Calls Tryz.prog 14 #[.string ⟨#[104, 97, 108, 102, 95, 101, 118, 101, 110]⟩] W fun e w' => e = .returned (.bool true) ∧ W = w') := Lib.hid (fun W => by
    have h1 := mword ⟨#[104, 97, 108, 102, 95, 101, 118, 101, 110]⟩ W
    rw [show byt ⟨#[104, 97, 108, 102, 95, 101, 118, 101, 110]⟩ = [104, 97, 108, 102, 95, 101, 118, 101, 110] from rfl, ex_word] at h1
    exact h1)
  have HG := Lib.hid hG
  clear hG
  go_enter Tryz.func5, Tryz.ntmps5
  go_wp2_with fail
  refine (C1.out _ HG.out).mono ?_
  rintro e w1 ⟨ao, c, rfl, hT1, q1⟩
  have T1 := Lib.hid hT1
  have B1 := Lib.hid q1
  clear hT1 q1
  go_wp2_with fail
  refine (C2.out ao c _ (HG.out.keep B1.out) T1.out).mono ?_
  rintro e w2 ⟨rfl, q2⟩
  have T2 := Lib.hid (T1.out.keep q2)
  have B2 := Lib.hid (btr B1.out q2)
  clear q2
  go_wp2_with fail
  refine (C3.out _ (HG.out.keep B2.out)).mono ?_
  rintro e w3 ⟨ao3, c3, rfl, _, q3⟩
  have T3 := Lib.hid (T2.out.keep q3)
  have B3 := Lib.hid (btr B2.out q3)
  clear q3
  go_wp2_with fail
  refine (C4.out _ (HG.out.keep B3.out)).mono ?_
  rintro e w4 ⟨rfl, q4⟩
  have T4 := Lib.hid (T3.out.keep q4)
  have B4 := Lib.hid (btr B3.out q4)
  clear q4
  go_wp2_with fail
  refine (C5.out _ (HG.out.keep B4.out)).mono ?_
  rintro e w5 ⟨rfl, q5⟩
  have T5 := Lib.hid (T4.out.keep q5)
  have B5 := Lib.hid (btr B4.out q5)
  clear q5
  have hA : TokensAt (some ⟨w5.heap.size, 0, none⟩) L1 (w5.alloc (.cells #[.int .i64 5, .int .i64 1, .string ⟨#[102, 101, 101]⟩, .int .i64 1, .int .i64 1, .string ⟨#[120, 49]⟩, .int .i64 4, .int .i64 2, .string ⟨#[60, 61]⟩, .int .i64 2, .int .i64 2, .string ⟨#[49, 50]⟩, .int .i64 3, .int .i64 2, .string ⟨#[49, 46, 53, 37]⟩] 36)) := toks_new w5 L1 _
  have qa := bal (bref w5) (.cells #[.int .i64 5, .int .i64 1, .string ⟨#[102, 101, 101]⟩, .int .i64 1, .int .i64 1, .string ⟨#[120, 49]⟩, .int .i64 4, .int .i64 2, .string ⟨#[60, 61]⟩, .int .i64 2, .int .i64 2, .string ⟨#[49, 50]⟩, .int .i64 3, .int .i64 2, .string ⟨#[49, 46, 53, 37]⟩] 36)
  have HA := Lib.hid hA
  have QA := Lib.hid qa
  clear hA qa
  go_wp2_with fail
  refine (C6.out ao _ c _ _ (T5.out.keep QA.out) HA.out).mono ?_
  rintro e w6 ⟨rfl, q6⟩
  have B6 := Lib.hid (btr (btr B5.out QA.out) q6)
  clear q6
  go_wp2_with fail
  refine (C7.out _).mono ?_
  rintro e w7 ⟨rfl, rfl⟩
  go_wp2_with fail
  go_ret
  exact ⟨rfl, B6.out⟩
end Go.Proofs.YtpmappddepkhiaaGreatDoor
