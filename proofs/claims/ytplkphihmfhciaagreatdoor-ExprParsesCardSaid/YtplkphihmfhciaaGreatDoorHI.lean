/-
  Expressions: the document's own Parse, the law's short, the walk of ExprParses.
-/
import Derived.Test.YtplkphihmfhciaaGreatDoorMN
import Derived.Test.YtplkphihmfhciaaGreatDoorHR
import Derived.Test.YtplkphihmfhciaaGreatDoorMI
import Derived.Test.YtplkphihmfhciaaGreatDoorHM
namespace Go.Proofs.YtplkphihmfhciaaGreatDoor
open Go Go.RowKit Go.Lib Go.Shelf WM TM EM

theorem pO_small (l : List Tok) (k0 : Int) (o : Out) : siz (pO l k0 o).1 ≤ 64 := by
 have h0 : siz E0 ≤ 64 := by decide
 cases o with
 | bad m => exact h0
 | ok e q m =>
  by_cases h : vE e = 0
  ·simp only [pO, if_pos h]; exact (vE_ok h).2.1
  ·simp only [pO, if_neg h]; exact h0
set_option maxRecDepth 100000 in
set_option maxHeartbeats 8000000 in
theorem rParse_out (ao : Option Addr) (c : Nat) (l : List Tok) (z : Int) (hz : z < 0 ∨ (l.length : Int) < z) (w : World) :
  Calls Tryz.prog 11 #[.slice ao l.length c, .int .i64 z] w fun r w' => ∃ so cap, r = .returned (.tuple #[vx E0 so cap, .int .i64 z, .int .i64 2]) ∧ Lies (E0, so, cap) w' ∧ Below w.heap.size w w' := by
 obtain ⟨n, hn⟩ : ∃ n, l.length = n := ⟨_, rfl⟩
 rw [hn] at hz ⊢
 clear hn
 have Z0 := Lib.hid (Zx.new w)
 by_cases h1 : z < 0
 ·clear hz
  obtain ⟨y0, y1, y2, y3, fz⟩ := Z0.out
  go_enter Tryz.func11, Tryz.ntmps11
  go_wp2_with fail
  refine bodyPost_ret (res_ex3 rfl _ _ _ rfl _ _ _ _ (by simp [go_sem]; rfl) (by simp [go_sem]; rfl) (by simp [go_sem]; rfl) (by simp [go_sem]; rfl) _ _ rfl rfl) rfl ?_
  exact ⟨none, 0, rfl, ⟨ExprsAt.nil _ _, fun _ => rfl⟩, bal (bref _) _⟩
 ·have h2 := hz.resolve_left h1
  clear hz
  obtain ⟨y0, y1, y2, y3, fz⟩ := Z0.out
  go_enter Tryz.func11, Tryz.ntmps11
  go_wp2_with fail
  refine bodyPost_ret (res_ex3 rfl _ _ _ rfl _ _ _ _ (by simp [go_sem]; rfl) (by simp [go_sem]; rfl) (by simp [go_sem]; rfl) (by simp [go_sem]; rfl) _ _ rfl rfl) rfl ?_
  exact ⟨none, 0, rfl, ⟨ExprsAt.nil _ _, fun _ => rfl⟩, bal (bref _) _⟩
set_option maxRecDepth 100000 in
set_option maxHeartbeats 8000000 in
theorem rParse (ao : Option Addr) (c : Nat) (l : List Tok) (k : Nat) (hk : k ≤ l.length) (w : World) (D : Dc w ao l) (o : Out) (hE : E 0 (l.drop k) o) :
  Calls Tryz.prog 11 #[.slice ao l.length c, .int .i64 (k : Int)] w fun r w' => ∃ so cap, r = .returned (.tuple #[vx (pO l k o).1 so cap, .int .i64 (pO l k o).2.1, .int .i64 (pO l k o).2.2]) ∧ Lies ((pO l k o).1, so, cap) w' ∧ Below w.heap.size w w' := by
 have PK := Lib.hid (fun W hW => rparseK w ao c l D _ 0 k (by omega) hk (Nat.le_refl _) (k : Int) 0 W rfl rfl hW)
 have HEQ := Lib.hid hE
 have HLN := Lib.hid D.len
 have HW : Hid (Below w.heap.size w w) := Lib.hid (bref w)
 obtain ⟨n, hn⟩ : ∃ n, l.length = n := ⟨_, rfl⟩
 have HN := Lib.hid hn
 have hlen := D.len
 rw [hn] at PK hlen hk ⊢
 have hkI : (k : Int) ≤ 1000 := by omega
 have hkn : (k : Int) ≤ (n : Int) := by omega
 clear D hE hn
 go_enter Tryz.func11, Tryz.ntmps11
 go_wp2_with fail
 obtain ⟨W2, hW2⟩ : ∃ W2, (w.alloc (.cells #[.int .i64 0, .int .i64 0, .string ⟨#[]⟩, .slice none 0 0] 27)) = W2 := ⟨_, rfl⟩
 have hz0 : Zx w.heap.size W2 := by rw [← hW2]; exact Zx.new w
 have hb2 : Below w.heap.size w W2 := by rw [← hW2]; exact bal (bref _) _
 have hsz : W2.heap.size = w.heap.size + 1 := by rw [← hW2]; simp
 rw [hW2]
 have Z0 := Lib.hid hz0
 have HB2 := Lib.hid hb2
 have HSZ := Lib.hid hsz
 have HWB := Lib.hid (HW.out.trans (hb2.mono HW.out.size))
 clear hW2 hz0 hb2 hsz
 refine (PK.out W2 HWB.out).mono ?_
 rintro q w1 ⟨o', hE, hR⟩
 obtain rfl := E.det HEQ.out (hE.e (by omega))
 clear hE
 cases o with
 | bad m =>
  obtain ⟨k', hm, hk', rfl, hb1⟩ := hR
  subst hm
  have HP : Hid (pO l k (.bad (l.drop k')) = (E0, ((k' : Nat) : Int), 2)) := Lib.hid (by simp only [pO, drop_len hk'])
  have Z1 := Lib.hid (Z0.out.below hb1)
  have HB1 := Lib.hid (HB2.out.trans (hb1.mono HB2.out.size))
  clear hb1 hk'
  obtain ⟨y0, y1, y2, y3, fz⟩ := Z1.out
  have lt0 := Zx.lt Z1.out
  have lt1 : w.heap.size < w1.heap.size + 1 := by omega
  have lt2 : w.heap.size < w1.heap.size + 1 + 1 := by omega
  go_wp2_with fail
  refine bodyPost_ret (res_ex3 rfl _ _ _ rfl _ _ _ _ (keepc (bal (bref _) _) (st4_0 Z1.out _ _ _ _)) (keepc (bal (bref _) _) (st4_1 Z1.out _ _ _ _)) (keepc (bal (bref _) _) (st4_2 Z1.out _ _ _ _)) (keepc (bal (bref _) _) (st4_3 Z1.out _ _ _ _)) _ _ rfl rfl) rfl ?_
  rw [HP.out]
  exact ⟨none, 0, rfl, ⟨ExprsAt.nil _ _, fun _ => rfl⟩, Ag.below (W := w1.alloc (.cells #[.int .i64 0, .int .i64 0, .string ⟨#[]⟩, .slice none 0 0] 27)) (by repeat (first | exact Ag.refl _ _ | refine Ag.set ?_ _ _ | refine Ag.alloc ?_ _)) (bal HB1.out _) (Nat.le_refl _)⟩
 | ok e kk m =>
  obtain ⟨k', so, cap, hm, hk', rfl, hX, hc, hb1⟩ := hR
  subst hm
  have hsz : siz e ≤ 100000 := by have h1 := HEQ.out.siz; have h2 := HLN.out; simp only [List.length_drop] at h1; omega
  have VA := Lib.hid (fun W hW => rvalidate e so cap W hsz (hX.ex.keep hW))
  have Z1 := Lib.hid (Z0.out.below hb1)
  have HB1 := Lib.hid (HB2.out.trans (hb1.mono HB2.out.size))
  have HX := Lib.hid hX
  have HC := Lib.hid hc
  have HDL := Lib.hid (drop_len hk')
  have HV1 := Lib.hid (bx_vx w1 e so cap)
  have hbW : Below w1.heap.size w1 (bx w1 e so cap) := bx_below _ _ _ _
  have HBW := Lib.hid hbW
  clear hb1 hX hc hk' hsz
  obtain ⟨y0, y1, y2, y3, fz⟩ := Z1.out
  have lt0 := Zx.lt Z1.out
  have lt1 : w.heap.size < w1.heap.size + 1 := by omega
  have lt2 : w.heap.size < w1.heap.size + 1 + 1 := by omega
  go_wp2_with fail
  refine (VA.out _ (bal (bref _) _)).mono ?_
  rintro q w2 ⟨rfl, hb2⟩
  have Z2 := Lib.hid ((Z1.out.below (bal (bref _) _)).below hb2)
  have HV2 := Lib.hid (HV1.out.below hb2)
  have HB2' := Lib.hid ((bal HB1.out _).trans (hb2.mono (by have := HB1.out.size; simp; omega)))
  have HX2 := Lib.hid ((HX.out.below (bal (bref _) _)).below hb2)
  clear hb2 y0 y1 y2 y3 fz
  by_cases hv : vE e = 0
  ·have HP : Hid (pO l k (.ok e kk (l.drop k')) = (e, ((k' : Nat) : Int), 0)) := Lib.hid (by simp only [pO, if_pos hv, HDL.out])
   rw [hv]
   clear hv
   obtain ⟨v0, v1, v2, v3, vf⟩ := HV2.out
   obtain ⟨y0, y1, y2, y3, fz⟩ := Z2.out
   have lt3 := Zx.lt Z2.out
   have lt4 : w.heap.size < w2.heap.size + 1 := by omega
   have lt5 : w.heap.size < w2.heap.size + 1 + 1 := by omega
   go_wp2_with fail
   refine bodyPost_ret (res_ex3 rfl _ _ _ rfl _ _ _ _ (st4_0 Z2.out _ _ _ _) (st4_1 Z2.out _ _ _ _) (st4_2 Z2.out _ _ _ _) (st4_3 Z2.out _ _ _ _) _ _ rfl rfl) rfl ?_
   rw [HP.out]
   exact ⟨so, cap, rfl, ⟨(Ag.xa (W := w2) (by repeat (first | exact Ag.refl _ _ | refine Ag.set ?_ _ _ | refine Ag.alloc ?_ _)) (HX2.out.mono (by rw [HSZ.out]; exact Nat.le_refl _)) (Nat.lt_succ_self _)).ex, HC.out⟩, Ag.below (W := w2) (by repeat (first | exact Ag.refl _ _ | refine Ag.set ?_ _ _ | refine Ag.alloc ?_ _)) HB2'.out (Nat.le_refl _)⟩
  ·have HP : Hid (pO l k (.ok e kk (l.drop k')) = (E0, (k : Int), vE e)) := Lib.hid (by simp only [pO, if_neg hv])
   obtain ⟨V, hV⟩ : ∃ V, vE e = V := ⟨_, rfl⟩
   rw [hV] at hv HP ⊢
   have gv : (V == 0) = false := by rw [beq_eq_false_iff_ne]; exact hv
   clear hv hV
   obtain ⟨y0, y1, y2, y3, fz⟩ := Z2.out
   have lt3 := Zx.lt Z2.out
   have lt4 : w.heap.size < w2.heap.size + 1 := by omega
   have lt5 : w.heap.size < w2.heap.size + 1 + 1 := by omega
   go_wp2_with fail
   refine bodyPost_ret (res_ex3 rfl _ _ _ rfl _ _ _ _ (st4_0 Z2.out _ _ _ _) (st4_1 Z2.out _ _ _ _) (st4_2 Z2.out _ _ _ _) (st4_3 Z2.out _ _ _ _) _ _ rfl rfl) rfl ?_
   rw [HP.out]
   exact ⟨none, 0, rfl, ⟨ExprsAt.nil _ _, fun _ => rfl⟩, Ag.below (W := w2) (by repeat (first | exact Ag.refl _ _ | refine Ag.set ?_ _ _ | refine Ag.alloc ?_ _)) HB2'.out (Nat.le_refl _)⟩
/-! ### The law -/
theorem both (ao : Option Addr) (c : Nat) (l : List Tok) (z : Int) (w : World) (hG : Gf w) (hS : Es w) (D : Dc w ao l) : ∃ (x : Ex) (i e : Int), siz x ≤ 64 ∧
  (∀ W, Below w.heap.size w W → Calls Tryz.prog 10 #[.slice ao l.length c, .int .i64 z] W fun r w' => ∃ so cap, r = .returned (.tuple #[.agg #[.int .i64 x.op, .int .i64 x.n, .string (str x.s), .slice so x.args.length cap], .int .i64 i, .int .i64 e]) ∧ Lies (x, so, cap) w' ∧ Below W.heap.size W w') ∧
  (∀ W, Below w.heap.size w W → Calls Tryz.prog 11 #[.slice ao l.length c, .int .i64 z] W fun r w' => ∃ so cap, r = .returned (.tuple #[.agg #[.int .i64 x.op, .int .i64 x.n, .string (str x.s), .slice so x.args.length cap], .int .i64 i, .int .i64 e]) ∧ Lies (x, so, cap) w' ∧ Below W.heap.size W w') := by
 by_cases hz : z < 0 ∨ (l.length : Int) < z
 ·exact ⟨E0, z, 2, by decide, fun W _ => mparse_out ao c l z hz W, fun W _ => rParse_out ao c l z hz W⟩
 ·obtain ⟨k, rfl⟩ : ∃ k : Nat, z = k := ⟨z.toNat, by omega⟩
  have hk : k ≤ l.length := by omega
  obtain ⟨o, ho⟩ := total (l.drop k) 0
  refine ⟨(pO l k o).1, (pO l k o).2.1, (pO l k o).2.2, pO_small l k o, fun W hW => ?_, fun W hW => ?_⟩
  ·exact mparse ao c l k hk W (hG.keep hW) (hS.keep hW) (D.lie.keep hW) (by have := D.len; omega) (fun t ht => by have := D.txt t ht; omega) o ho
  ·exact rParse ao c l k hk W ⟨D.lie.keep hW, D.len, D.txt⟩ o ho
set_option maxRecDepth 100000 in
set_option maxHeartbeats 8000000 in
theorem exprParses (ao : Option Addr) (l : List Tok) (c : Nat) (z : Int) (w : World) (hG : Gf w) (hS : Es w) (hT : TokensAt ao l w) :
  Calls Tryz.prog 3 #[.slice ao l.length c, .int .i64 z] w fun r w' => r = .returned (.bool true) ∧ Below w.heap.size w w' := by
 have LV := Lib.hid (fun W (hW : Below w.heap.size w W) => mlive W (hG.keep hW) (hS.keep hW))
 have SH := Lib.hid (fun W (hW : Below w.heap.size w W) => mshort10 ao l c W (hT.keep hW))
 obtain ⟨n, hn⟩ : ∃ n, l.length = n := ⟨_, rfl⟩
 have HN := Lib.hid hn
 cases hs : sh10 l with
 | false =>
  rw [hs, hn] at SH
  rw [hn]
  clear hs hG hS hT hn
  go_enter Tryz.func3, Tryz.ntmps3
  go_wp2_with fail
  refine (SH.out _ (bref _)).mono ?_
  rintro r w1 ⟨rfl, rfl⟩
  go_wp2_with fail
  refine (LV.out _ (bref _)).mono ?_
  rintro r w9 ⟨rfl, hb9⟩
  have HB9 := Lib.hid (btr (bref _) hb9)
  clear hb9
  go_wp2_with fail
  go_ret
  exact ⟨rfl, HB9.out⟩
 | true =>
  obtain ⟨s1, s2⟩ := sh10_parts hs
  obtain ⟨x, i, e, hx, mp, rp⟩ := both ao c l z w hG hS ⟨hT, by omega, fun t ht => by have := s2 t ht; omega⟩
  have MP := Lib.hid mp
  have RP := Lib.hid rp
  have HX := Lib.hid hx
  rw [hs, hn] at SH
  rw [hn] at MP RP
  rw [hn]
  clear hs hG hS hT hn s1 s2 mp rp hx
  go_enter Tryz.func3, Tryz.ntmps3
  go_wp2_with fail
  refine (SH.out _ (bref _)).mono ?_
  rintro r w1 ⟨rfl, rfl⟩
  go_wp2_with fail
  refine (MP.out _ (bref _)).mono ?_
  rintro r u1 ⟨so1, cap1, rfl, hL1, hb1⟩
  have HL1 := Lib.hid hL1
  have HB1 := Lib.hid hb1
  have HV1 := Lib.hid (bx_vx u1 x so1 cap1)
  clear hL1 hb1
  go_wp2_with fail
  refine (RP.out _ (bal HB1.out _)).mono ?_
  rintro r u2 ⟨so2, cap2, rfl, hL2, hb2⟩
  have HL1' := Lib.hid ((HL1.out.keep (bal (bref _) _)).keep hb2)
  have HV1' := Lib.hid (HV1.out.below hb2)
  have HL2 := Lib.hid hL2
  have HB2 := Lib.hid ((bal HB1.out _).trans (hb2.mono (by have := HB1.out.size; simp; omega)))
  have lt9 := HV1'.out.lt
  clear hL2 hb2
  obtain ⟨v0, v1, v2, v3, vf⟩ := HV1'.out
  have RS := rsame x x so1 so2 cap1 cap2 (u2.alloc (.cells #[.int .i64 x.op, .int .i64 x.n, .string (str x.s), .slice so2 x.args.length cap2] 27)) (by have := HX.out; omega) (HL1'.out.1.keep (bal (bref _) _)) (HL2.out.1.keep (bal (bref _) _))
  rw [same_yes rfl] at RS
  have RS := Lib.hid RS
  go_wp2_with fail
  refine RS.out.mono ?_
  rintro r u3 ⟨rfl, hb3⟩
  have HB3 := Lib.hid ((bal HB2.out _).trans (hb3.mono (by have := HB2.out.size; simp; omega)))
  clear hb3 v0 v1 v2 v3 vf
  go_wp2_with fail
  refine (LV.out _ HB3.out).mono ?_
  rintro r w9 ⟨rfl, hb9⟩
  have HB9 := Lib.hid (btr HB3.out hb9)
  clear hb9
  go_wp2_with fail
  go_ret
  exact ⟨rfl, HB9.out⟩
end Go.Proofs.YtplkphihmfhciaaGreatDoor
