/-
  The walk of the law MoneyChecks.
-/
import Derived.Test.YtkijbckpfcfcpabDoorMOrd
import Derived.Deep.QuietTactic
import Derived.BigQuiet
namespace Go.Proofs.YtkijbckpfcfcpabDoor
open Go Go.RowKit Go.Lib WM

set_option maxRecDepth 100000 in
set_option maxHeartbeats 8000000 in
theorem checks_any (ao : Option Addr) (cap : Nat) (cs : List Cur) (code : ByteArray) (w : World) (ht : Tb w) (hc : CashAt ao cs w) :
    Calls Tryd.prog 6 #[.slice ao cs.length cap, .string code] w fun e w' => e = .returned (.bool true) ∧ Below w.heap.size w w' := by
  by_cases hbig : 20 < cs.length
  · have hz : (20 : Int) < (cs.length : Int) := by omega
    clear hbig hc
    go_enter Tryd.func6, Tryd.ntmps6
    go_wp2_with fail
    refine (lives_any _ ht).mono ?_
    rintro e w1 ⟨rfl, q1⟩
    go_wp2_with fail
    go_ret
    exact ⟨rfl, q1⟩
  · have hz : ¬ (20 : Int) < (cs.length : Int) := by omega
    have hzl : (cs.length : Int) ≤ 20 := by omega
    have hln : cs.length ≤ 1000000 := by omega
    have C1 := fun W h => mcheck ao cap cs W h
    have C2 := fun W h => rcheck ao cap cs W h
    have C3 := fun c W h => mfind ao cap cs c W hln h
    have C4 := fun W h => rfind ao cap cs code W hln h
    have C3' := C3 code
    have hf := found cs
    obtain ⟨E, hE⟩ : ∃ E, checkC cs = E := ⟨_, rfl⟩
    obtain ⟨⟨⟨fs, fd⟩, fb⟩, hF⟩ : ∃ F, findC cs code = F := ⟨_, rfl⟩
    simp only [hE] at C1 C2 hf
    simp only [hF, encC] at C3' C4
    have C1 := Lib.hid C1; have C2 := Lib.hid C2; have C3 := Lib.hid C3; have C3' := Lib.hid C3'; have C4 := Lib.hid C4
    have HC := Lib.hid hc
    have HF := Lib.hid hf
    clear hbig hc hE hF hf hln
    go_enter Tryd.func6, Tryd.ntmps6
    go_wp2_with fail
    refine (C1.out _ HC.out).mono ?_
    rintro e w1 ⟨rfl, q1⟩
    go_wp2_with fail
    refine (C3'.out _ (HC.out.keep q1)).mono ?_
    rintro e w2 ⟨rfl, q2⟩
    go_wp2_with fail
    have X2 : Below w.heap.size w w2 := btr q1 q2
    refine (C4.out _ (HC.out.keep (bal X2 _))).mono ?_
    rintro e w3 ⟨rfl, q3⟩
    have OC : Own w3 w2.heap.size (.string fs) (.int .i64 fd) := (Own.new _ _ _ _).keep q3
    have X3 : Below w.heap.size w w3 := btr (bal X2 _) q3
    have sC := World.block_lt_of_cell? w3 _ OC.1
    go_wp2_with fail
    refine (C2.out _ (HC.out.keep (bal X3 _))).mono ?_
    rintro e w4 ⟨rfl, q4⟩
    have OC4 : Own w4 w2.heap.size (.string fs) (.int .i64 fd) := OC.keep (btr (bal (bref w3) _) q4)
    have OD4 : Own w4 w3.heap.size (.string fs) (.int .i64 fd) := (Own.new _ _ _ _).keep q4
    have X4 : Below w.heap.size w w4 := btr (bal X3 _) q4
    obtain ⟨c0, c1, c2, c3⟩ := OC4
    obtain ⟨d0, d1, d2, d3⟩ := OD4
    go_wp2_with fail
    have X4 := Lib.hid X4
    clear c0 c1 c2 c3 d0 d1 d2 d3 OC q1 q2 q3 q4 X2 X3 sC C1 C2 C4 C3'
    go_loopw [10] (fun i wr => ∃ k : Nat, k ≤ cs.length ∧ i = .int .i64 k ∧ Below w.heap.size w wr) (fun i _ => cs.length - (RowKit.intOf i).toNat)
    case atStart => exact ⟨0, by omega, rfl, X4.out⟩
    case round =>
      obtain ⟨k, hk, rfl, hB⟩ := hrel
      have HB := Lib.hid hB
      by_cases hlt : k < cs.length
      · have hkz : (k : Int) < (cs.length : Int) := by omega
        by_cases hE0 : E = 0
        · have hfk := HF.out hE0 k hlt
          obtain ⟨b, off, rfl, hbw, c0, c1⟩ := (HC.out.keep hB) k hlt
          obtain ⟨s, hs⟩ : ∃ s, (cs.getD k zeroC).1 = s := ⟨_, rfl⟩
          obtain ⟨d, hd⟩ : ∃ d, (cs.getD k zeroC).2 = d := ⟨_, rfl⟩
          rw [hs] at c0; rw [hd] at c1
          have hpair : cs.getD k zeroC = (s, d) := by rw [← hs, ← hd]
          rw [hpair] at hfk
          have C5 := fun W h => C3.out s W h
          simp only [hfk, encC] at C5
          have C5 := Lib.hid C5
          have HBW := Lib.hid hbw
          subst hE0
          have HLT := Lib.hid hlt
          clear hs hd hpair hfk hB HF C3
          go_wp2_with fail
          refine (C5.out _ (HC.out.keep HB.out)).mono ?_
          rintro e w5 ⟨rfl, q5⟩
          have c0' := (q5.cell (p := ⟨b, off + k * 2, none⟩) hbw).trans c0
          have c1' := (q5.cell (p := ⟨b, off + k * 2 + 1, none⟩) hbw).trans c1
          have hb5 : b < w5.heap.size := by have := q5.size; omega
          have B5 := Lib.hid (btr HB.out q5)
          have hb5' : ¬ b = w5.heap.size := by omega
          clear c0 c1 q5
          go_wp2_with fail
          go_quiet (fail)
          go_wp2_with fail
          go_roundw
          case rel => exact ⟨k + 1, HLT.out, by go_num, bdn (bal B5.out _) _⟩
          case measure => simp [RowKit.intOf]; have := HLT.out; omega
        · go_wp2_with fail
          refine (lives_any _ (ht.keep HB.out)).mono ?_
          rintro e w5 ⟨rfl, q5⟩
          have B5 := btr HB.out q5
          go_wp2_with fail
          go_ret
          exact ⟨rfl, B5⟩
      · have he : k = cs.length := by omega
        subst he
        go_wp2_with fail
        refine (lives_any _ (ht.keep HB.out)).mono ?_
        rintro e w5 ⟨rfl, q5⟩
        have B5 := btr HB.out q5
        go_wp2_with fail
        go_ret
        exact ⟨rfl, B5⟩
end Go.Proofs.YtkijbckpfcfcpabDoor
