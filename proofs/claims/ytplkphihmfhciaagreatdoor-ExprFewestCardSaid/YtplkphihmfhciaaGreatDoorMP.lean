/-
  Merged: The printer's expression. Printing any expression. Tokens.
-/
import Derived.Test.YtplkphihmfhciaaGreatDoorEQ
/- The printer's expression. -/
namespace Go.Proofs.YtplkphihmfhciaaGreatDoor
open Go Go.RowKit Go.Lib Go.Shelf WM TM EM

theorem row_of {o : Int} (h1 : 1 ≤ o) (h2 : o ≤ 19) : rowO o.toNat = (opn o, ((rk o : Nat) : Int) + 1, (if o ≤ 4 then 0 else (word o).1), (if o ≤ 4 then [] else (word o).2)) := by
 have ho : ((o.toNat : Nat) : Int) = o := by omega
 unfold rowO
 rw [if_neg (by omega)]
 by_cases h : o ≤ 4
 ·rw [if_pos (by omega), if_pos h, if_pos h]
  have : opn o = 0 := by unfold opn; rw [if_neg (by omega), if_pos h]
  rw [this]
  have : rk o = 8 := by
   have : o = 1 ∨ o = 2 ∨ o = 3 ∨ o = 4 := by omega
   rcases this with rfl | rfl | rfl | rfl <;> decide
  rw [this]; rfl
 ·rw [if_neg (by omega), if_neg h, if_neg h, ho]
def Two (u : World) (b : Nat) (o n : Int) (X : ByteArray) (so : Option Addr) (m cap : Nat) (P ρ κ : Int) (Y : ByteArray) : Prop :=
 (u.cell? ⟨b, 0, none⟩ = some (.int .i64 o) ∧ u.cell? ⟨b, 1, none⟩ = some (.int .i64 n) ∧ u.cell? ⟨b, 2, none⟩ = some (.string X) ∧ u.cell? ⟨b, 3, none⟩ = some (.slice so m cap)) ∧
 (u.cell? ⟨b + 1, 0, none⟩ = some (.int .i64 P) ∧ u.cell? ⟨b + 1, 1, none⟩ = some (.int .i64 ρ) ∧ u.cell? ⟨b + 1, 2, none⟩ = some (.int .i64 κ) ∧ u.cell? ⟨b + 1, 3, none⟩ = some (.string Y))
theorem Two.keep {u u' : World} {b : Nat} {o n : Int} {X : ByteArray} {so : Option Addr} {m cap : Nat} {P ρ κ : Int} {Y : ByteArray} (h : Two u b o n X so m cap P ρ κ Y) (hb : Below u.heap.size u u') : Two u' b o n X so m cap P ρ κ Y := by
 obtain ⟨⟨a0, a1, a2, a3⟩, c0, c1, c2, c3⟩ := h
 exact ⟨⟨keepc hb a0, keepc hb a1, keepc hb a2, keepc hb a3⟩, keepc hb c0, keepc hb c1, keepc hb c2, keepc hb c3⟩
theorem Two.pr {u u' : World} {b pb : Nat} {v v' : Value} {o n : Int} {X : ByteArray} {so : Option Addr} {m cap : Nat} {P ρ κ : Int} {Y : ByteArray} (h : Two u b o n X so m cap P ρ κ Y) (hp : Pr pb u u' v v') (hne : pb < b) (hv : ∀ g, v.ownBlock = some g → g < b) : Two u' b o n X so m cap P ρ κ Y := by
 obtain ⟨⟨a0, a1, a2, a3⟩, c0, c1, c2, c3⟩ := h
 have n1 : b ≠ pb := by omega
 have n2 : b + 1 ≠ pb := by omega
 have m1 : ∀ g, v.ownBlock = some g → g ≠ b := fun g hg => by have := hv g hg; omega
 have m2 : ∀ g, v.ownBlock = some g → g ≠ b + 1 := fun g hg => by have := hv g hg; omega
 exact ⟨⟨hp.cell n1 m1 a0, hp.cell n1 m1 a1, hp.cell n1 m1 a2, hp.cell n1 m1 a3⟩, hp.cell n2 m2 c0, hp.cell n2 m2 c1, hp.cell n2 m2 c2, hp.cell n2 m2 c3⟩

set_option maxRecDepth 100000 in
set_option maxHeartbeats 4000000 in
theorem px_leaf (wb : World) (pb base : Nat) (o n : Int) (X : ByteArray) (so : Option Addr) (m cap : Nat) (ρ κ : Int) (Y : ByteArray) (ho : 1 ≤ o ∧ o ≤ 19) (r0 : Int) (hr : ¬ ρ < r0) (v0 : Value) (l0 : List Tok) (RES : List Tok) (w0 : World) (hz : Pz wb pb base v0 l0 w0)
  (SG : Hid (∀ v W, Pz wb pb base v l0 W → Calls Tryz.prog 56 #[.pointer (some ⟨pb, 0, none⟩), .agg #[.int .i64 o, .int .i64 n, .string X, .slice so m cap]] W fun r w' => r = .returned (.tuple #[]) ∧ ∃ v', Pz wb pb base v' (l0 ++ RES) w' ∧ Pr pb W w' v v'))
  (tb0 : w0.cell? ⟨0, o.toNat * 4, none⟩ = some (.int .i64 0)) (tb1 : w0.cell? ⟨0, o.toNat * 4 + 1, none⟩ = some (.int .i64 ρ)) (tb2 : w0.cell? ⟨0, o.toNat * 4 + 2, none⟩ = some (.int .i64 κ)) (tb3 : w0.cell? ⟨0, o.toNat * 4 + 3, none⟩ = some (.string Y)) :
  Calls Tryz.prog 32 #[.pointer (some ⟨pb, 0, none⟩), .agg #[.int .i64 o, .int .i64 n, .string X, .slice so m cap], .int .i64 r0] w0 fun e w' => e = .returned (.tuple #[]) ∧ ∃ v', Pz wb pb base v' (l0 ++ RES) w' ∧ Pr pb w0 w' v0 v' := by
 have hWb := Lib.hid (bal (bref w0) (.cells #[.int .i64 o, .int .i64 n, .string X, .slice so m cap] 27))
 have t0 := keepc hWb.out tb0
 have t1 := keepc hWb.out tb1
 have t2 := keepc hWb.out tb2
 have t3 := keepc hWb.out tb3
 have hPL : ∀ g, v0.ownBlock = some g → g < w0.heap.size := fun g hg => (ownP_lt hz.1.2 hg).2
 have hpb : pb < w0.heap.size := by have h1 := hz.2.2.1; have h2 := hz.2.2.2.2.1; omega
 have HPL := Lib.hid hPL
 have HZ0 := Lib.hid hz
 have MB := Lib.hid (fun W => mbetween 0 ρ κ Y W)
 clear tb0 tb1 tb2 tb3 hz hPL
 go_enter Tryz.func32, Tryz.ntmps32
 go_wp2_with fail
 obtain ⟨b, hb⟩ : ∃ b, w0.heap.size = b := ⟨_, rfl⟩
 obtain ⟨u0, hu0⟩ : ∃ u0, (w0.alloc (.cells #[.int .i64 o, .int .i64 n, .string X, .slice so m cap] 27)).alloc (.cells #[.int .i64 0, .int .i64 ρ, .int .i64 κ, .string Y] 75) = u0 := ⟨_, rfl⟩
 have hbu : Below w0.heap.size w0 u0 := by rw [← hu0]; exact bal (bal (bref _) _) _
 have hTW : Two u0 b o n X so m cap 0 ρ κ Y := by
  rw [← hu0, ← hb]
  refine ⟨⟨?_, ?_, ?_, ?_⟩, ?_, ?_, ?_, ?_⟩ <;> simp [go_sem]
 have HBU := Lib.hid hbu
 rw [hu0]
 simp only [hb]
 have HTW := Lib.hid hTW
 have HPB : Hid (pb < b) := Lib.hid (by rw [← hb]; exact hpb)
 have HPV : Hid (∀ g, v0.ownBlock = some g → g < b) := Lib.hid (by rw [← hb]; exact HPL.out)
 clear hu0 hbu t0 t1 t2 t3 hTW hpb HPL
 refine (MB.out _).mono ?_
 rintro r u1 ⟨rfl, hb1⟩
 have HBu1 := Lib.hid (btr HBU.out hb1)
 have HZu := Lib.hid (HZ0.out.keep HBu1.out)
 have HTu := Lib.hid (HTW.out.keep hb1)
 clear hb1
 obtain ⟨⟨a0, a1, a2, a3⟩, d0, d1, d2, d3⟩ := HTu.out
 go_wp2_with fail
 refine (SG.out _ _ HZu.out).mono ?_
 rintro r w1 ⟨rfl, v1, hz1, hp1⟩
 have HZ1 := Lib.hid hz1
 have HP1 := Lib.hid ((Pr.of_below (pb := pb) HBu1.out v0).trans hp1)
 clear hz1 hp1 a0 a1 a2 a3 d0 d1 d2 d3
 go_wp2_with fail
 go_end0
 exact ⟨rfl, v1, HZ1.out, HP1.out⟩
set_option maxRecDepth 100000 in
set_option maxHeartbeats 4000000 in
theorem px_front (wb : World) (pb base : Nat) (o n : Int) (X : ByteArray) (so : Option Addr) (m cap : Nat) (P ρ κ : Int) (Y : ByteArray) (ho : 1 ≤ o ∧ o ≤ 19) (r0 : Int) (hP : P = 1 ∨ P = 3 ∨ (P = 2 ∧ ρ = 9)) (hr : ¬ ρ < r0) (v0 : Value) (l0 : List Tok) (MID RES : List Tok) (w0 : World) (hz : Pz wb pb base v0 l0 w0)
  (PUT : Hid (∀ v W, Pz wb pb base v l0 W → Calls Tryz.prog 54 #[.pointer (some ⟨pb, 0, none⟩), .int .i64 κ, .string Y] W fun r w' => r = .returned (.tuple #[]) ∧ ∃ v', Pz wb pb base v' MID w' ∧ Pr pb W w' v v'))
  (BH : Hid (∀ v W, Pz wb pb base v MID W → Calls Tryz.prog 57 #[.pointer (some ⟨pb, 0, none⟩), .int .i64 o, .slice so m cap] W fun r w' => r = .returned (.tuple #[]) ∧ ∃ v', Pz wb pb base v' (l0 ++ RES) w' ∧ Pr pb W w' v v'))
  (tb0 : w0.cell? ⟨0, o.toNat * 4, none⟩ = some (.int .i64 P)) (tb1 : w0.cell? ⟨0, o.toNat * 4 + 1, none⟩ = some (.int .i64 ρ)) (tb2 : w0.cell? ⟨0, o.toNat * 4 + 2, none⟩ = some (.int .i64 κ)) (tb3 : w0.cell? ⟨0, o.toNat * 4 + 3, none⟩ = some (.string Y)) :
  Calls Tryz.prog 32 #[.pointer (some ⟨pb, 0, none⟩), .agg #[.int .i64 o, .int .i64 n, .string X, .slice so m cap], .int .i64 r0] w0 fun e w' => e = .returned (.tuple #[]) ∧ ∃ v', Pz wb pb base v' (l0 ++ RES) w' ∧ Pr pb w0 w' v0 v' := by
 have hP2 : (P == 0) = false := by rw [beq_eq_false_iff_ne]; omega
 have hP5 : ¬ P = 0 := by omega
 have hP4 : (decide (P = 2) && decide (ρ < 9)) = false := by
  rcases hP with h | h | h
  ·rw [decide_eq_false (by omega)]; rfl
  ·rw [decide_eq_false (by omega)]; rfl
  ·rw [decide_eq_false (show ¬ ρ < 9 by omega)]; simp
 have hWb := Lib.hid (bal (bref w0) (.cells #[.int .i64 o, .int .i64 n, .string X, .slice so m cap] 27))
 have t0 := keepc hWb.out tb0
 have t1 := keepc hWb.out tb1
 have t2 := keepc hWb.out tb2
 have t3 := keepc hWb.out tb3
 have hPL : ∀ g, v0.ownBlock = some g → g < w0.heap.size := fun g hg => (ownP_lt hz.1.2 hg).2
 have hpb : pb < w0.heap.size := by have h1 := hz.2.2.1; have h2 := hz.2.2.2.2.1; omega
 have HPL := Lib.hid hPL
 have HZ0 := Lib.hid hz
 have MB0 := fun W => mbetween P ρ κ Y W
 simp only [hP4] at MB0
 have MB := Lib.hid MB0
 clear MB0 hP hP4 tb0 tb1 tb2 tb3 hz hPL
 go_enter Tryz.func32, Tryz.ntmps32
 go_wp2_with fail
 obtain ⟨b, hb⟩ : ∃ b, w0.heap.size = b := ⟨_, rfl⟩
 obtain ⟨u0, hu0⟩ : ∃ u0, (w0.alloc (.cells #[.int .i64 o, .int .i64 n, .string X, .slice so m cap] 27)).alloc (.cells #[.int .i64 P, .int .i64 ρ, .int .i64 κ, .string Y] 75) = u0 := ⟨_, rfl⟩
 have hbu : Below w0.heap.size w0 u0 := by rw [← hu0]; exact bal (bal (bref _) _) _
 have hTW : Two u0 b o n X so m cap P ρ κ Y := by
  rw [← hu0, ← hb]
  refine ⟨⟨?_, ?_, ?_, ?_⟩, ?_, ?_, ?_, ?_⟩ <;> simp [go_sem]
 have HBU := Lib.hid hbu
 rw [hu0]
 simp only [hb]
 have HTW := Lib.hid hTW
 have HPB : Hid (pb < b) := Lib.hid (by rw [← hb]; exact hpb)
 have HPV : Hid (∀ g, v0.ownBlock = some g → g < b) := Lib.hid (by rw [← hb]; exact HPL.out)
 clear hu0 hbu t0 t1 t2 t3 hTW hpb HPL
 refine (MB.out _).mono ?_
 rintro r u1 ⟨rfl, hb1⟩
 have HBu1 := Lib.hid (btr HBU.out hb1)
 have HZu := Lib.hid (HZ0.out.keep HBu1.out)
 have HTu := Lib.hid (HTW.out.keep hb1)
 clear hb1
 obtain ⟨⟨a0, a1, a2, a3⟩, d0, d1, d2, d3⟩ := HTu.out
 go_wp2_with fail
 refine (PUT.out _ _ HZu.out).mono ?_
 rintro r w1 ⟨rfl, v1, hz1, hp1⟩
 have HT1 := Lib.hid (HTu.out.pr hp1 HPB.out HPV.out)
 have HZ1 := Lib.hid hz1
 have HP1 := Lib.hid ((Pr.of_below (pb := pb) HBu1.out v0).trans hp1)
 clear hz1 hp1 a0 a1 a2 a3 d0 d1 d2 d3
 obtain ⟨⟨a0, a1, a2, a3⟩, d0, d1, d2, d3⟩ := HT1.out
 go_wp2_with fail
 refine (BH.out _ _ HZ1.out).mono ?_
 rintro r w2 ⟨rfl, v2, hz2, hp2⟩
 have HZ2 := Lib.hid hz2
 have HP2 := Lib.hid (HP1.out.trans hp2)
 clear hz2 hp2 a0 a1 a2 a3 d0 d1 d2 d3
 go_wp2_with fail
 go_end0
 exact ⟨rfl, v2, HZ2.out, HP2.out⟩
set_option maxRecDepth 100000 in
set_option maxHeartbeats 4000000 in
theorem px_paren (wb : World) (pb base : Nat) (o n : Int) (X : ByteArray) (so : Option Addr) (m cap : Nat) (P ρ κ : Int) (Y : ByteArray) (ho : 1 ≤ o ∧ o ≤ 19) (r0 : Int) (hr : ρ < r0) (v0 : Value) (l0 : List Tok) (MID MID2 RES : List Tok) (w0 : World) (hz : Pz wb pb base v0 l0 w0)
  (PUT : Hid (∀ v W, Pz wb pb base v l0 W → Calls Tryz.prog 54 #[.pointer (some ⟨pb, 0, none⟩), .int .i64 4, .string ⟨#[40]⟩] W fun r w' => r = .returned (.tuple #[]) ∧ ∃ v', Pz wb pb base v' MID w' ∧ Pr pb W w' v v'))
  (KEY : Hid (∀ v W, Pz wb pb base v MID W → Calls Tryz.prog 32 #[.pointer (some ⟨pb, 0, none⟩), .agg #[.int .i64 o, .int .i64 n, .string X, .slice so m cap], .int .i64 1] W fun r w' => r = .returned (.tuple #[]) ∧ ∃ v', Pz wb pb base v' MID2 w' ∧ Pr pb W w' v v'))
  (PUT2 : Hid (∀ v W, Pz wb pb base v MID2 W → Calls Tryz.prog 54 #[.pointer (some ⟨pb, 0, none⟩), .int .i64 4, .string ⟨#[41]⟩] W fun r w' => r = .returned (.tuple #[]) ∧ ∃ v', Pz wb pb base v' (l0 ++ RES) w' ∧ Pr pb W w' v v'))
  (tb0 : w0.cell? ⟨0, o.toNat * 4, none⟩ = some (.int .i64 P)) (tb1 : w0.cell? ⟨0, o.toNat * 4 + 1, none⟩ = some (.int .i64 ρ)) (tb2 : w0.cell? ⟨0, o.toNat * 4 + 2, none⟩ = some (.int .i64 κ)) (tb3 : w0.cell? ⟨0, o.toNat * 4 + 3, none⟩ = some (.string Y)) :
  Calls Tryz.prog 32 #[.pointer (some ⟨pb, 0, none⟩), .agg #[.int .i64 o, .int .i64 n, .string X, .slice so m cap], .int .i64 r0] w0 fun e w' => e = .returned (.tuple #[]) ∧ ∃ v', Pz wb pb base v' (l0 ++ RES) w' ∧ Pr pb w0 w' v0 v' := by
 have hWb := Lib.hid (bal (bref w0) (.cells #[.int .i64 o, .int .i64 n, .string X, .slice so m cap] 27))
 have t0 := keepc hWb.out tb0
 have t1 := keepc hWb.out tb1
 have t2 := keepc hWb.out tb2
 have t3 := keepc hWb.out tb3
 have hPL : ∀ g, v0.ownBlock = some g → g < w0.heap.size := fun g hg => (ownP_lt hz.1.2 hg).2
 have hpb : pb < w0.heap.size := by have h1 := hz.2.2.1; have h2 := hz.2.2.2.2.1; omega
 have HPL := Lib.hid hPL
 have HZ0 := Lib.hid hz
 have MB := Lib.hid (fun W => mbetween P ρ κ Y W)
 clear tb0 tb1 tb2 tb3 hz hPL
 go_enter Tryz.func32, Tryz.ntmps32
 go_wp2_with fail
 obtain ⟨b, hb⟩ : ∃ b, w0.heap.size = b := ⟨_, rfl⟩
 obtain ⟨u0, hu0⟩ : ∃ u0, (w0.alloc (.cells #[.int .i64 o, .int .i64 n, .string X, .slice so m cap] 27)).alloc (.cells #[.int .i64 P, .int .i64 ρ, .int .i64 κ, .string Y] 75) = u0 := ⟨_, rfl⟩
 have hbu : Below w0.heap.size w0 u0 := by rw [← hu0]; exact bal (bal (bref _) _) _
 have hTW : Two u0 b o n X so m cap P ρ κ Y := by
  rw [← hu0, ← hb]
  refine ⟨⟨?_, ?_, ?_, ?_⟩, ?_, ?_, ?_, ?_⟩ <;> simp [go_sem]
 have HBU := Lib.hid hbu
 rw [hu0]
 simp only [hb]
 have HTW := Lib.hid hTW
 have HPB : Hid (pb < b) := Lib.hid (by rw [← hb]; exact hpb)
 have HPV : Hid (∀ g, v0.ownBlock = some g → g < b) := Lib.hid (by rw [← hb]; exact HPL.out)
 clear hu0 hbu t0 t1 t2 t3 hTW hpb HPL
 obtain ⟨⟨a0, a1, a2, a3⟩, d0, d1, d2, d3⟩ := HTW.out
 refine (PUT.out _ _ (HZ0.out.keep HBU.out)).mono ?_
 rintro r w1 ⟨rfl, v1, hz1, hp1⟩
 have HT1 := Lib.hid (HTW.out.pr hp1 HPB.out HPV.out)
 have HZ1 := Lib.hid hz1
 have HP1 := Lib.hid ((Pr.of_below (pb := pb) HBU.out v0).trans hp1)
 clear hz1 hp1 a0 a1 a2 a3 d0 d1 d2 d3
 obtain ⟨⟨a0, a1, a2, a3⟩, d0, d1, d2, d3⟩ := HT1.out
 go_wp2_with fail
 refine (KEY.out _ _ HZ1.out).mono ?_
 rintro r w2 ⟨rfl, v2, hz2, hp2⟩
 have HZ2 := Lib.hid hz2
 have HP2 := Lib.hid (HP1.out.trans hp2)
 clear hz2 hp2 a0 a1 a2 a3 d0 d1 d2 d3
 go_wp2_with fail
 refine (PUT2.out _ _ HZ2.out).mono ?_
 rintro r w3 ⟨rfl, v3, hz3, hp3⟩
 have HZ3 := Lib.hid hz3
 have HP3 := Lib.hid (HP2.out.trans hp3)
 clear hz3 hp3
 go_wp2_with fail
 go_end0
 exact ⟨rfl, v3, HZ3.out, HP3.out⟩
set_option maxRecDepth 100000 in
set_option maxHeartbeats 4000000 in
theorem px_binary (wb : World) (pb base : Nat) (o n : Int) (X : ByteArray) (eb ef cap : Nat) (ρ κ : Int) (Y : ByteArray) (ho : 1 ≤ o ∧ o ≤ 19) (r0 : Int) (hρ : 0 ≤ ρ ∧ ρ < 9) (L : Int) (hL : (if ρ = 5 then 6 else ρ) = L) (a bb : Ex) (soa sobb : Option Addr) (capa capbb : Nat)
  (fa0 : wb.cell? ⟨eb, ef, none⟩ = some (.int .i64 a.op)) (fa1 : wb.cell? ⟨eb, ef + 1, none⟩ = some (.int .i64 a.n)) (fa2 : wb.cell? ⟨eb, ef + 2, none⟩ = some (.string (str a.s))) (fa3 : wb.cell? ⟨eb, ef + 3, none⟩ = some (.slice soa a.args.length capa)) (fb0 : wb.cell? ⟨eb, ef + 4, none⟩ = some (.int .i64 bb.op)) (fb1 : wb.cell? ⟨eb, ef + 5, none⟩ = some (.int .i64 bb.n)) (fb2 : wb.cell? ⟨eb, ef + 6, none⟩ = some (.string (str bb.s))) (fb3 : wb.cell? ⟨eb, ef + 7, none⟩ = some (.slice sobb bb.args.length capbb)) (hr : ¬ ρ < r0) (v0 : Value) (l0 : List Tok) (MID MID2 RES : List Tok) (w0 : World) (hz : Pz wb pb base v0 l0 w0)
  (IHa : Hid (∀ v W, Pz wb pb base v l0 W → Calls Tryz.prog 32 #[.pointer (some ⟨pb, 0, none⟩), .agg #[.int .i64 a.op, .int .i64 a.n, .string (str a.s), .slice soa a.args.length capa], .int .i64 L] W fun r w' => r = .returned (.tuple #[]) ∧ ∃ v', Pz wb pb base v' MID w' ∧ Pr pb W w' v v'))
  (PUT : Hid (∀ v W, Pz wb pb base v MID W → Calls Tryz.prog 54 #[.pointer (some ⟨pb, 0, none⟩), .int .i64 κ, .string Y] W fun r w' => r = .returned (.tuple #[]) ∧ ∃ v', Pz wb pb base v' MID2 w' ∧ Pr pb W w' v v'))
  (IHb : Hid (∀ v W, Pz wb pb base v MID2 W → Calls Tryz.prog 32 #[.pointer (some ⟨pb, 0, none⟩), .agg #[.int .i64 bb.op, .int .i64 bb.n, .string (str bb.s), .slice sobb bb.args.length capbb], .int .i64 (ρ + 1)] W fun r w' => r = .returned (.tuple #[]) ∧ ∃ v', Pz wb pb base v' (l0 ++ RES) w' ∧ Pr pb W w' v v'))
  (tb0 : w0.cell? ⟨0, o.toNat * 4, none⟩ = some (.int .i64 2)) (tb1 : w0.cell? ⟨0, o.toNat * 4 + 1, none⟩ = some (.int .i64 ρ)) (tb2 : w0.cell? ⟨0, o.toNat * 4 + 2, none⟩ = some (.int .i64 κ)) (tb3 : w0.cell? ⟨0, o.toNat * 4 + 3, none⟩ = some (.string Y)) :
  Calls Tryz.prog 32 #[.pointer (some ⟨pb, 0, none⟩), .agg #[.int .i64 o, .int .i64 n, .string X, .slice (some ⟨eb, ef, none⟩) 2 cap], .int .i64 r0] w0 fun e w' => e = .returned (.tuple #[]) ∧ ∃ v', Pz wb pb base v' (l0 ++ RES) w' ∧ Pr pb w0 w' v0 v' := by
 have LR0 := fun W => mleftRank 2 ρ κ Y ⟨hρ.1, by omega⟩ W
 rw [hL] at LR0
 have LR := Lib.hid LR0
 have RR := Lib.hid (fun W => mrightRank 2 ρ κ Y ⟨hρ.1, by omega⟩ W)
 have MB0 := fun W => mbetween 2 ρ κ Y W
 rw [show (decide ((2 : Int) = 2) && decide (ρ < 9)) = true by rw [decide_eq_true hρ.2]; rfl] at MB0
 clear LR0 hL
 have hWb := Lib.hid (bal (bref w0) (.cells #[.int .i64 o, .int .i64 n, .string X, .slice (some ⟨eb, ef, none⟩) 2 cap] 27))
 have t0 := keepc hWb.out tb0
 have t1 := keepc hWb.out tb1
 have t2 := keepc hWb.out tb2
 have t3 := keepc hWb.out tb3
 have hPL : ∀ g, v0.ownBlock = some g → g < w0.heap.size := fun g hg => (ownP_lt hz.1.2 hg).2
 have hpb : pb < w0.heap.size := by have h1 := hz.2.2.1; have h2 := hz.2.2.2.2.1; omega
 have HPL := Lib.hid hPL
 have HZ0 := Lib.hid hz
 have MB := Lib.hid MB0
 clear MB0 tb0 tb1 tb2 tb3 hz hPL
 go_enter Tryz.func32, Tryz.ntmps32
 go_wp2_with fail
 obtain ⟨b, hb⟩ : ∃ b, w0.heap.size = b := ⟨_, rfl⟩
 obtain ⟨u0, hu0⟩ : ∃ u0, (w0.alloc (.cells #[.int .i64 o, .int .i64 n, .string X, .slice (some ⟨eb, ef, none⟩) 2 cap] 27)).alloc (.cells #[.int .i64 2, .int .i64 ρ, .int .i64 κ, .string Y] 75) = u0 := ⟨_, rfl⟩
 have hbu : Below w0.heap.size w0 u0 := by rw [← hu0]; exact bal (bal (bref _) _) _
 have hTW : Two u0 b o n X (some ⟨eb, ef, none⟩) 2 cap 2 ρ κ Y := by
  rw [← hu0, ← hb]
  refine ⟨⟨?_, ?_, ?_, ?_⟩, ?_, ?_, ?_, ?_⟩ <;> simp [go_sem]
 have HBU := Lib.hid hbu
 rw [hu0]
 simp only [hb]
 have HTW := Lib.hid hTW
 have HPB : Hid (pb < b) := Lib.hid (by rw [← hb]; exact hpb)
 have HPV : Hid (∀ g, v0.ownBlock = some g → g < b) := Lib.hid (by rw [← hb]; exact HPL.out)
 clear hu0 hbu t0 t1 t2 t3 hTW hpb HPL
 refine (MB.out _).mono ?_
 rintro r u1 ⟨rfl, hb1⟩
 have HBu1 := Lib.hid (btr HBU.out hb1)
 have HZu := Lib.hid (HZ0.out.keep HBu1.out)
 have HTu := Lib.hid (HTW.out.keep hb1)
 clear hb1
 have HVA : Hid (∀ g, v0.ownBlock = some g → g ≠ b ∧ g ≠ b + 1) := Lib.hid (fun g hg => by have := HPV.out g hg; omega)
 obtain ⟨⟨a0, a1, a2, a3⟩, d0, d1, d2, d3⟩ := HTu.out
 go_wp2_with fail
 clear a0 a1 a2 a3 d0 d1 d2 d3
 refine wp_region_held_drew (S := (fun W => Below wb.heap.size wb W ∧ W.cell? ⟨b, 3, none⟩ = some (.slice (some ⟨eb, ef, none⟩) 2 cap) ∧ W.cell? ⟨b + 1, 0, none⟩ = some (.int .i64 2) ∧ W.cell? ⟨b + 1, 1, none⟩ = some (.int .i64 ρ) ∧ W.cell? ⟨b + 1, 2, none⟩ = some (.int .i64 κ) ∧ W.cell? ⟨b + 1, 3, none⟩ = some (.string Y))) (by kernel_rfl) (by obtain ⟨⟨a0, a1, a2, a3⟩, d0, d1, d2, d3⟩ := HTu.out; exact ⟨bdr HZu.out.2.1, keepc (bdr (bref _)) a3, keepc (bdr (bref _)) d0, keepc (bdr (bref _)) d1, keepc (bdr (bref _)) d2, keepc (bdr (bref _)) d3⟩) (fun hH0 => ?_)
 refine wpAnyH_take (i := 0) (oi := _) (v := ?_) rfl (by kernel_rfl) (by kernel_rfl) (by kernel_rfl) (fun _ _ _ h => h) (Or.inl ⟨?_, ?_⟩) hH0 ?_
 rotate_left
 ·kernel_rfl
 ·(intro W' hSw; obtain ⟨s0, s1, s2, s3, s4, s5⟩ := hSw; have c0 := keepc s0 fa0; have c1 := keepc s0 fa1; have c2 := keepc s0 fa2; have c3 := keepc s0 fa3; go_simp; (try with_reducible rfl))
 (try simp only [List.getElem_toArray])
 (try simp only [List.getElem_cons_succ])
 (try simp only [List.getElem_cons_zero])
 (try simp only [Act.put])
 (try simp only [List.setIfInBounds_toArray])
 (try simp only [List.set_cons_succ])
 (try simp only [List.set_cons_zero])
 refine wpAnyH_take (i := 1) (oi := _) (v := ?_) rfl (by kernel_rfl) (by kernel_rfl) (by kernel_rfl) (fun _ _ _ h => h) (Or.inl ⟨?_, ?_⟩) hH0 ?_
 rotate_left
 ·kernel_rfl
 ·(intro W' hSw; obtain ⟨s0, s1, s2, s3, s4, s5⟩ := hSw; have c0 := keepc s0 fa0; have c1 := keepc s0 fa1; have c2 := keepc s0 fa2; have c3 := keepc s0 fa3; go_simp; (try with_reducible rfl))
 (try simp only [List.getElem_toArray])
 (try simp only [List.getElem_cons_succ])
 (try simp only [List.getElem_cons_zero])
 (try simp only [Act.put])
 (try simp only [List.setIfInBounds_toArray])
 (try simp only [List.set_cons_succ])
 (try simp only [List.set_cons_zero])
 refine wpAnyH_take (i := 2) (oi := _) (v := ?_) rfl (by kernel_rfl) (by kernel_rfl) (by kernel_rfl) (fun _ _ _ h => h) (Or.inl ⟨?_, ?_⟩) hH0 ?_
 rotate_left
 ·kernel_rfl
 ·(intro W' hSw; obtain ⟨s0, s1, s2, s3, s4, s5⟩ := hSw; have c0 := keepc s0 fa0; have c1 := keepc s0 fa1; have c2 := keepc s0 fa2; have c3 := keepc s0 fa3; go_simp; (try with_reducible rfl))
 (try simp only [List.getElem_toArray])
 (try simp only [List.getElem_cons_succ])
 (try simp only [List.getElem_cons_zero])
 (try simp only [Act.put])
 (try simp only [List.setIfInBounds_toArray])
 (try simp only [List.set_cons_succ])
 (try simp only [List.set_cons_zero])
 refine wpAnyH_take (i := 3) (oi := _) (v := ?_) rfl (by kernel_rfl) (by kernel_rfl) (by kernel_rfl) (fun _ _ _ h => h) (Or.inl ⟨?_, ?_⟩) hH0 ?_
 rotate_left
 ·kernel_rfl
 ·(intro W' hSw; obtain ⟨s0, s1, s2, s3, s4, s5⟩ := hSw; have c0 := keepc s0 fa0; have c1 := keepc s0 fa1; have c2 := keepc s0 fa2; have c3 := keepc s0 fa3; go_simp; (try with_reducible rfl))
 (try simp only [List.getElem_toArray])
 (try simp only [List.getElem_cons_succ])
 (try simp only [List.getElem_cons_zero])
 (try simp only [Act.put])
 (try simp only [List.setIfInBounds_toArray])
 (try simp only [List.set_cons_succ])
 (try simp only [List.set_cons_zero])
 refine wpAnyH_take (i := 4) (oi := _) (v := ?_) rfl (by kernel_rfl) (by kernel_rfl) (by kernel_rfl) (fun _ _ _ h => h) (Or.inl ⟨?_, ?_⟩) hH0 ?_
 rotate_left
 ·kernel_rfl
 ·(intro W' hSw; obtain ⟨s0, s1, s2, s3, s4, s5⟩ := hSw; have c0 := keepc s0 fa0; have c1 := keepc s0 fa1; have c2 := keepc s0 fa2; have c3 := keepc s0 fa3; go_simp; (try with_reducible rfl))
 (try simp only [List.getElem_toArray])
 (try simp only [List.getElem_cons_succ])
 (try simp only [List.getElem_cons_zero])
 (try simp only [Act.put])
 (try simp only [List.setIfInBounds_toArray])
 (try simp only [List.set_cons_succ])
 (try simp only [List.set_cons_zero])
 refine wpAnyH_take (i := 5) (oi := _) (v := ?_) rfl (by kernel_rfl) (by kernel_rfl) (by kernel_rfl) (fun _ _ _ h => h) (Or.inl ⟨?_, ?_⟩) hH0 ?_
 rotate_left
 ·kernel_rfl
 ·(intro W' hSw; obtain ⟨s0, s1, s2, s3, s4, s5⟩ := hSw; have c0 := keepc s0 fa0; have c1 := keepc s0 fa1; have c2 := keepc s0 fa2; have c3 := keepc s0 fa3; go_simp; (try with_reducible rfl))
 (try simp only [List.getElem_toArray])
 (try simp only [List.getElem_cons_succ])
 (try simp only [List.getElem_cons_zero])
 (try simp only [Act.put])
 (try simp only [List.setIfInBounds_toArray])
 (try simp only [List.set_cons_succ])
 (try simp only [List.set_cons_zero])
 refine wpAnyH_ready (rs := [6]) (by kernel_rfl) (by simp) ?_
 refine AllReadyH.cons (o := _) rfl (fun K hK => ?_) AllReadyH.nil
 go_simp
 refine (LR.out _).mono ?_
 rintro r w3 ⟨rfl, hb3⟩
 refine hK.out _ _ (by obtain ⟨s0, s1, s2, s3, s4, s5⟩ := hH0; exact ⟨s0.trans (hb3.mono s0.size), keepc hb3 s1, keepc hb3 s2, keepc hb3 s3, keepc hb3 s4, keepc hb3 s5⟩) (fun hH1 => ?_)
 clear hK K
 (try simp only [List.getElem_toArray])
 (try simp only [List.getElem_cons_succ])
 (try simp only [List.getElem_cons_zero])
 (try simp only [Act.put])
 (try simp only [List.setIfInBounds_toArray])
 (try simp only [List.set_cons_succ])
 (try simp only [List.set_cons_zero])
 refine wpAnyH_ready (rs := [7]) (by kernel_rfl) (by simp) ?_
 refine AllReadyH.cons (o := _) rfl (fun K hK => ?_) AllReadyH.nil
 go_simp
 refine (IHa.out _ _ (HZu.out.keep (btr (bdr (bref _)) hb3))).mono ?_
 rintro r w1 ⟨rfl, v1, hz1, hp1⟩
 refine hK.out _ _ (by obtain ⟨s0, s1, s2, s3, s4, s5⟩ := hH1; exact ⟨hz1.2.1, hp1.cell (show b ≠ pb by have := HPB.out; omega) (fun g hg => by have := HVA.out g hg; exact this.1) s1, hp1.cell (show b + 1 ≠ pb by have := HPB.out; omega) (fun g hg => (HVA.out g hg).2) s2, hp1.cell (show b + 1 ≠ pb by have := HPB.out; omega) (fun g hg => (HVA.out g hg).2) s3, hp1.cell (show b + 1 ≠ pb by have := HPB.out; omega) (fun g hg => (HVA.out g hg).2) s4, hp1.cell (show b + 1 ≠ pb by have := HPB.out; omega) (fun g hg => (HVA.out g hg).2) s5⟩) (fun hH2 => ?_)
 clear hK K
 (try simp only [List.getElem_toArray])
 (try simp only [List.getElem_cons_succ])
 (try simp only [List.getElem_cons_zero])
 (try simp only [Act.put])
 (try simp only [List.setIfInBounds_toArray])
 (try simp only [List.set_cons_succ])
 (try simp only [List.set_cons_zero])
 refine wpAnyH_done (by kernel_rfl) ?_ _
 have HP1 := Lib.hid ((Pr.of_below (pb := pb) (btr (bdr (bref u1)) hb3) v0).trans hp1)
 have HT1 := Lib.hid (HTu.out.pr HP1.out HPB.out HPV.out)
 have HPa := Lib.hid ((Pr.of_below (pb := pb) HBu1.out v0).trans HP1.out)
 have HZ1 := Lib.hid hz1
 clear hz1 hp1 hb3 hH0 hH1 hH2
 obtain ⟨⟨a0, a1, a2, a3⟩, d0, d1, d2, d3⟩ := HT1.out
 go_wp2_with fail
 refine (PUT.out _ _ HZ1.out).mono ?_
 rintro r w2 ⟨rfl, v2, hz2, hp2⟩
 have HPu2 := Lib.hid (HP1.out.trans hp2)
 have HT2 := Lib.hid (HTu.out.pr HPu2.out HPB.out HPV.out)
 have HPb := Lib.hid (HPa.out.trans hp2)
 have HZ2 := Lib.hid hz2
 have HVB : Hid (∀ g, v2.ownBlock = some g → g ≠ b ∧ g ≠ b + 1) := Lib.hid (fun g hg => by
  rcases HPu2.out.own g hg with h | h
  ·have := HPV.out g h; omega
  ·have h9 := World.block_lt_of_cell? u1 _ HTu.out.2.1
   have h10 : b + 1 < u1.heap.size := h9
   omega)
 clear hz2 hp2 a0 a1 a2 a3 d0 d1 d2 d3
 go_wp2_with fail
 refine wp_region_held_drew (S := (fun W => Below wb.heap.size wb W ∧ W.cell? ⟨b, 3, none⟩ = some (.slice (some ⟨eb, ef, none⟩) 2 cap) ∧ W.cell? ⟨b + 1, 0, none⟩ = some (.int .i64 2) ∧ W.cell? ⟨b + 1, 1, none⟩ = some (.int .i64 ρ) ∧ W.cell? ⟨b + 1, 2, none⟩ = some (.int .i64 κ) ∧ W.cell? ⟨b + 1, 3, none⟩ = some (.string Y))) (by kernel_rfl) (by obtain ⟨⟨a0, a1, a2, a3⟩, d0, d1, d2, d3⟩ := HT2.out; exact ⟨bdr HZ2.out.2.1, keepc (bdr (bref _)) a3, keepc (bdr (bref _)) d0, keepc (bdr (bref _)) d1, keepc (bdr (bref _)) d2, keepc (bdr (bref _)) d3⟩) (fun hH0 => ?_)
 refine wpAnyH_take (i := 0) (oi := _) (v := ?_) rfl (by kernel_rfl) (by kernel_rfl) (by kernel_rfl) (fun _ _ _ h => h) (Or.inl ⟨?_, ?_⟩) hH0 ?_
 rotate_left
 ·kernel_rfl
 ·(intro W' hSw; obtain ⟨s0, s1, s2, s3, s4, s5⟩ := hSw; have c0 := keepc s0 fb0; have c1 := keepc s0 fb1; have c2 := keepc s0 fb2; have c3 := keepc s0 fb3; go_simp; (try with_reducible rfl))
 (try simp only [List.getElem_toArray])
 (try simp only [List.getElem_cons_succ])
 (try simp only [List.getElem_cons_zero])
 (try simp only [Act.put])
 (try simp only [List.setIfInBounds_toArray])
 (try simp only [List.set_cons_succ])
 (try simp only [List.set_cons_zero])
 refine wpAnyH_take (i := 1) (oi := _) (v := ?_) rfl (by kernel_rfl) (by kernel_rfl) (by kernel_rfl) (fun _ _ _ h => h) (Or.inl ⟨?_, ?_⟩) hH0 ?_
 rotate_left
 ·kernel_rfl
 ·(intro W' hSw; obtain ⟨s0, s1, s2, s3, s4, s5⟩ := hSw; have c0 := keepc s0 fb0; have c1 := keepc s0 fb1; have c2 := keepc s0 fb2; have c3 := keepc s0 fb3; go_simp; (try with_reducible rfl))
 (try simp only [List.getElem_toArray])
 (try simp only [List.getElem_cons_succ])
 (try simp only [List.getElem_cons_zero])
 (try simp only [Act.put])
 (try simp only [List.setIfInBounds_toArray])
 (try simp only [List.set_cons_succ])
 (try simp only [List.set_cons_zero])
 refine wpAnyH_take (i := 2) (oi := _) (v := ?_) rfl (by kernel_rfl) (by kernel_rfl) (by kernel_rfl) (fun _ _ _ h => h) (Or.inl ⟨?_, ?_⟩) hH0 ?_
 rotate_left
 ·kernel_rfl
 ·(intro W' hSw; obtain ⟨s0, s1, s2, s3, s4, s5⟩ := hSw; have c0 := keepc s0 fb0; have c1 := keepc s0 fb1; have c2 := keepc s0 fb2; have c3 := keepc s0 fb3; go_simp; (try with_reducible rfl))
 (try simp only [List.getElem_toArray])
 (try simp only [List.getElem_cons_succ])
 (try simp only [List.getElem_cons_zero])
 (try simp only [Act.put])
 (try simp only [List.setIfInBounds_toArray])
 (try simp only [List.set_cons_succ])
 (try simp only [List.set_cons_zero])
 refine wpAnyH_take (i := 3) (oi := _) (v := ?_) rfl (by kernel_rfl) (by kernel_rfl) (by kernel_rfl) (fun _ _ _ h => h) (Or.inl ⟨?_, ?_⟩) hH0 ?_
 rotate_left
 ·kernel_rfl
 ·(intro W' hSw; obtain ⟨s0, s1, s2, s3, s4, s5⟩ := hSw; have c0 := keepc s0 fb0; have c1 := keepc s0 fb1; have c2 := keepc s0 fb2; have c3 := keepc s0 fb3; go_simp; (try with_reducible rfl))
 (try simp only [List.getElem_toArray])
 (try simp only [List.getElem_cons_succ])
 (try simp only [List.getElem_cons_zero])
 (try simp only [Act.put])
 (try simp only [List.setIfInBounds_toArray])
 (try simp only [List.set_cons_succ])
 (try simp only [List.set_cons_zero])
 refine wpAnyH_take (i := 4) (oi := _) (v := ?_) rfl (by kernel_rfl) (by kernel_rfl) (by kernel_rfl) (fun _ _ _ h => h) (Or.inl ⟨?_, ?_⟩) hH0 ?_
 rotate_left
 ·kernel_rfl
 ·(intro W' hSw; obtain ⟨s0, s1, s2, s3, s4, s5⟩ := hSw; have c0 := keepc s0 fb0; have c1 := keepc s0 fb1; have c2 := keepc s0 fb2; have c3 := keepc s0 fb3; go_simp; (try with_reducible rfl))
 (try simp only [List.getElem_toArray])
 (try simp only [List.getElem_cons_succ])
 (try simp only [List.getElem_cons_zero])
 (try simp only [Act.put])
 (try simp only [List.setIfInBounds_toArray])
 (try simp only [List.set_cons_succ])
 (try simp only [List.set_cons_zero])
 refine wpAnyH_take (i := 5) (oi := _) (v := ?_) rfl (by kernel_rfl) (by kernel_rfl) (by kernel_rfl) (fun _ _ _ h => h) (Or.inl ⟨?_, ?_⟩) hH0 ?_
 rotate_left
 ·kernel_rfl
 ·(intro W' hSw; obtain ⟨s0, s1, s2, s3, s4, s5⟩ := hSw; have c0 := keepc s0 fb0; have c1 := keepc s0 fb1; have c2 := keepc s0 fb2; have c3 := keepc s0 fb3; go_simp; (try with_reducible rfl))
 (try simp only [List.getElem_toArray])
 (try simp only [List.getElem_cons_succ])
 (try simp only [List.getElem_cons_zero])
 (try simp only [Act.put])
 (try simp only [List.setIfInBounds_toArray])
 (try simp only [List.set_cons_succ])
 (try simp only [List.set_cons_zero])
 refine wpAnyH_ready (rs := [6]) (by kernel_rfl) (by simp) ?_
 refine AllReadyH.cons (o := _) rfl (fun K hK => ?_) AllReadyH.nil
 go_simp
 refine (RR.out _).mono ?_
 rintro r w5 ⟨rfl, hb3⟩
 refine hK.out _ _ (by obtain ⟨s0, s1, s2, s3, s4, s5⟩ := hH0; exact ⟨s0.trans (hb3.mono s0.size), keepc hb3 s1, keepc hb3 s2, keepc hb3 s3, keepc hb3 s4, keepc hb3 s5⟩) (fun hH1 => ?_)
 clear hK K
 (try simp only [List.getElem_toArray])
 (try simp only [List.getElem_cons_succ])
 (try simp only [List.getElem_cons_zero])
 (try simp only [Act.put])
 (try simp only [List.setIfInBounds_toArray])
 (try simp only [List.set_cons_succ])
 (try simp only [List.set_cons_zero])
 refine wpAnyH_ready (rs := [7]) (by kernel_rfl) (by simp) ?_
 refine AllReadyH.cons (o := _) rfl (fun K hK => ?_) AllReadyH.nil
 go_simp
 refine (IHb.out _ _ (HZ2.out.keep (btr (bdr (bref _)) hb3))).mono ?_
 rintro r w6 ⟨rfl, v3, hz3, hp3⟩
 refine hK.out _ _ (by obtain ⟨s0, s1, s2, s3, s4, s5⟩ := hH1; exact ⟨hz3.2.1, hp3.cell (show b ≠ pb by have := HPB.out; omega) (fun g hg => by have := HVB.out g hg; exact this.1) s1, hp3.cell (show b + 1 ≠ pb by have := HPB.out; omega) (fun g hg => (HVB.out g hg).2) s2, hp3.cell (show b + 1 ≠ pb by have := HPB.out; omega) (fun g hg => (HVB.out g hg).2) s3, hp3.cell (show b + 1 ≠ pb by have := HPB.out; omega) (fun g hg => (HVB.out g hg).2) s4, hp3.cell (show b + 1 ≠ pb by have := HPB.out; omega) (fun g hg => (HVB.out g hg).2) s5⟩) (fun hH2 => ?_)
 clear hK K
 (try simp only [List.getElem_toArray])
 (try simp only [List.getElem_cons_succ])
 (try simp only [List.getElem_cons_zero])
 (try simp only [Act.put])
 (try simp only [List.setIfInBounds_toArray])
 (try simp only [List.set_cons_succ])
 (try simp only [List.set_cons_zero])
 refine wpAnyH_done (by kernel_rfl) ?_ _
 have HP3 := Lib.hid (HPb.out.trans ((Pr.of_below (pb := pb) (btr (bdr (bref w2)) hb3) v2).trans hp3))
 have HZ3 := Lib.hid hz3
 clear hz3 hp3 hb3 hH0 hH1 hH2
 go_wp2_with fail
 go_end0
 exact ⟨rfl, v3, HZ3.out, HP3.out⟩
end Go.Proofs.YtplkphihmfhciaaGreatDoor

/- Printing any expression. -/
namespace Go.Proofs.YtplkphihmfhciaaGreatDoor
open Go Go.RowKit Go.Lib Go.Shelf WM TM EM

theorem inf_range {o : Int} (h : o ∈ infs) : 1 ≤ o ∧ o ≤ 19 ∧ 4 < o ∧ opn o = 2 := by
 revert h; revert o; decide
theorem inf_eight {o : Int} (h : o ∈ infs) : rk o ≠ 8 := by have := inf_ranks h; omega
theorem hput (wb : World) (pb base : Nat) (l : List Tok) (hl : l.length ≤ 1000000) (k : Int) (x : List UInt8) :
  Hid (∀ v W, Pz wb pb base v l W → Calls Tryz.prog 54 #[.pointer (some ⟨pb, 0, none⟩), .int .i64 k, .string (str x)] W fun r w' => r = .returned (.tuple #[]) ∧ ∃ v', Pz wb pb base v' (l ++ [tk k x]) w' ∧ Pr pb W w' v v') := by
 refine Lib.hid fun v W h => (pput wb pb base v l W h hl k (str x)).mono ?_
 rintro r w' ⟨he, v', h1, h2⟩
 rw [byt_str] at h1
 exact ⟨he, v', h1, h2⟩
set_option maxHeartbeats 1000000 in
theorem px_bare (wb : World) (pb base : Nat) (x : Ex) (ih : ∀ a ∈ x.args, PxC wb pb base a) (r : Nat) (so : Option Addr) (cap : Nat) (v : Value) (l : List Tok) (W : World) (hr : r ≤ rk x.op) (hz : Pz wb pb base v l W) (hL : ExprsAt so x.args wb) (hx : right x = true) (hl : l.length + 10 * siz x ≤ 100000 + 1) :
  Calls Tryz.prog 32 #[.pointer (some ⟨pb, 0, none⟩), .agg #[.int .i64 x.op, .int .i64 x.n, .string (str x.s), .slice so x.args.length cap], .int .i64 ((r : Int) + 1)] W fun e w' =>
   e = .returned (.tuple #[]) ∧ ∃ v', Pz wb pb base v' (l ++ body x) w' ∧ Pr pb W w' v v' := by
 obtain ⟨o, n, s, a⟩ := x
 simp only [Ex.op, Ex.n, Ex.s, Ex.args] at ih hr hL ⊢
 obtain ⟨hf, hra⟩ := right_parts hx
 obtain ⟨f1, f2, f3, f4⟩ := fmd_parts hf
 have hor := opn_range (o := o) (by omega)
 have hrow := row_of hor.1 hor.2
 have hgf := hz.gf
 have T := hgf.1.1.2 o.toNat (by omega)
 rw [hrow] at T
 simp only at T
 obtain ⟨T0, T1, T2, T3⟩ := T
 have hr' : ¬ ((rk o : Nat) : Int) + 1 < (r : Int) + 1 := by omega
 rw [siz_mk] at hl
 match a with
 | [] =>
  have h0 : opn o = 0 := by simpa using f1.symm
  rw [h0] at T0
  exact px_leaf wb pb base o n (str s) so 0 cap _ _ _ hor _ hr' v l (leaf o n s) W hz
   (Lib.hid fun v' W' h' => msingle wb pb base o n s so cap (opn_zero h0) f2 f3 v' l W' h' (by omega)) T0 T1 T2 T3
 | [a] =>
  have h1 : opn o = 1 := by simpa using f1.symm
  rw [h1] at T0
  rw [if_neg (by have := opn_one h1; omega)] at T2 T3
  rw [sizs_cons, sizs_nil] at hl
  rcases opn_one h1 with rfl | rfl
  ·refine px_front wb pb base 9 n (str s) so 1 cap 1 _ _ _ hor _ (Or.inl rfl) hr' v l (l ++ [tk (word 9).1 (word 9).2]) (body (.mk 9 n s [a])) W hz
    (hput wb pb base l (by omega) _ _) (Lib.hid fun v' W' h' => ?_) T0 T1 T2 T3
   have h := mbehind9 wb pb base a so cap (ih a (by simp)) (hra a (by simp)) hL v' _ W' h' (by simp; omega)
   rw [List.append_assoc] at h
   exact h
  ·refine px_front wb pb base 16 n (str s) so 1 cap 1 _ _ _ hor _ (Or.inl rfl) hr' v l (l ++ [tk (word 16).1 (word 16).2]) (body (.mk 16 n s [a])) W hz
    (hput wb pb base l (by omega) _ _) (Lib.hid fun v' W' h' => ?_) T0 T1 T2 T3
   have h := mbehind16 wb pb base a so cap (ih a (by simp)) (hra a (by simp)) hL v' _ W' h' (by simp; omega)
   rw [List.append_assoc] at h
   exact h
 | [a, b] =>
  have h2 : opn o = 2 := by simpa using f1.symm
  rw [h2] at T0
  rw [sizs_cons, sizs_cons, sizs_nil] at hl
  rcases opn_two h2 with hi | rfl | rfl
  ·rw [if_neg (by have := inf_range hi; omega)] at T2 T3
   obtain ⟨r1, r2, _, r4, r5, r6, r7, _⟩ := inf_ranks hi
   obtain ⟨b0, off0, so0, cap0, hso0, _, fa0, fa1, fa2, fa3, faL, _⟩ := hL.at 0 (by simp)
   simp only [List.getD_cons_zero, List.getD_cons_succ, Nat.zero_mul, Nat.add_zero, Nat.one_mul, Nat.reduceMul] at fa0 fa1 fa2 fa3 faL
   obtain ⟨b1, off1, so1, cap1, hso1, _, fb0, fb1, fb2, fb3, fbL, _⟩ := hL.at 1 (by simp)
   simp only [List.getD_cons_zero, List.getD_cons_succ, Nat.zero_mul, Nat.add_zero, Nat.one_mul, Nat.reduceMul] at fb0 fb1 fb2 fb3 fbL
   rw [hso0] at hso1
   injection hso1 with hso1
   injection hso1 with e1 e2
   subst e1
   subst e2
   subst hso0
   have hb : body (.mk o n s [a, b]) = wr (lr o) a ++ tk (word o).1 (word o).2 :: wr (rk o + 1) b := by
    rw [body, if_neg (inf_eight hi)]; rfl
   rw [hb]
   have w1 := wr_len (lr o) a
   refine px_binary wb pb base o n (str s) b0 off0 cap _ _ _ hor _ ⟨by omega, by omega⟩ (((lr o : Nat) : Int) + 1) ?_ a b so0 so1 cap0 cap1 fa0 fa1 fa2 fa3 fb0 fb1 fb2 fb3 hr' v l (l ++ wr (lr o) a) ((l ++ wr (lr o) a) ++ [tk (word o).1 (word o).2]) _ W hz
    (Lib.hid fun v' W' h' => ih a (by simp) (lr o) so0 cap0 v' l W' (by omega) h' faL (hra a (by simp)) (by omega)) (hput wb pb base _ (by simp; omega) _ _) (Lib.hid fun v' W' h' => ?_) T0 T1 T2 T3
   ·split
    ·rw [r6 (by omega)]; rfl
    ·rw [r7 (by omega)]
   ·have h := ih b (by simp) (rk o + 1) so1 cap1 v' _ W' (by omega) h' fbL (hra b (by simp)) (by simp; omega)
    have e : l ++ wr (lr o) a ++ [tk (word o).1 (word o).2] ++ wr (rk o + 1) b = l ++ (wr (lr o) a ++ tk (word o).1 (word o).2 :: wr (rk o + 1) b) := by simp
    rw [e] at h
    have e2 : (((rk o + 1 : Nat) : Int) + 1) = ((rk o : Nat) : Int) + 1 + 1 := by omega
    rw [e2] at h
    exact h
  ·refine px_front wb pb base 17 n (str s) so 2 cap 2 _ _ _ hor _ (Or.inr (Or.inr ⟨rfl, by decide⟩)) hr' v l (l ++ [tk (word 17).1 (word 17).2]) (body (.mk 17 n s [a, b])) W hz
    (hput wb pb base l (by omega) _ _) (Lib.hid fun v' W' h' => ?_) T0 T1 T2 T3
   have h := mbehind17 wb pb base a b so cap (ih a (by simp)) (ih b (by simp)) (hra a (by simp)) (hra b (by simp)) hL v' _ W' h' (by simp; omega)
   rw [List.append_assoc] at h
   exact h
  ·refine px_front wb pb base 18 n (str s) so 2 cap 2 _ _ _ hor _ (Or.inr (Or.inr ⟨rfl, by decide⟩)) hr' v l (l ++ [tk (word 18).1 (word 18).2]) (body (.mk 18 n s [a, b])) W hz
    (hput wb pb base l (by omega) _ _) (Lib.hid fun v' W' h' => ?_) T0 T1 T2 T3
   have h := mbehind18 wb pb base a b so cap (ih a (by simp)) (ih b (by simp)) (hra a (by simp)) (hra b (by simp)) hL v' _ W' h' (by simp; omega)
   rw [List.append_assoc] at h
   exact h
 | [a, b, c] =>
  have h3 : opn o = 3 := by simpa using f1.symm
  rw [h3] at T0
  rw [sizs_cons, sizs_cons, sizs_cons, sizs_nil] at hl
  cases opn_three h3
  refine px_front wb pb base 19 n (str s) so 3 cap 3 _ _ _ hor _ (Or.inr (Or.inl rfl)) hr' v l (l ++ [tk (word 19).1 (word 19).2]) (body (.mk 19 n s [a, b, c])) W hz
   (hput wb pb base l (by omega) _ _) (Lib.hid fun v' W' h' => ?_) T0 T1 T2 T3
  have h := mbehind19 wb pb base a b c so cap (ih a (by simp)) (ih b (by simp)) (ih c (by simp)) (hra a (by simp)) (hra b (by simp)) (hra c (by simp)) hL v' _ W' h' (by simp; omega)
  rw [List.append_assoc] at h
  exact h
 | _ :: _ :: _ :: _ :: _ =>
  have := opn_le o
  simp at f1
  omega
theorem mpexpr (wb : World) (pb base : Nat) : ∀ x, PxC wb pb base x := by
 refine ex_ind _ fun x ih r so cap v l W hr8 hz hL hx hl => ?_
 by_cases h : rk x.op < r
 ·have hw : wr r x = tk 4 [40] :: (body x ++ [tk 4 [41]]) := by unfold wr par; rw [if_pos (by simpa using h)]
  rw [hw]
  have hor : 1 ≤ x.op ∧ x.op ≤ 19 := by
   obtain ⟨o, n, s, a⟩ := x
   have := (fmd_parts (right_parts hx).1).1
   exact opn_range (o := o) (by omega)
  have hrow := row_of hor.1 hor.2
  have T := hz.gf.1.1.2 x.op.toNat (by omega)
  rw [hrow] at T
  simp only at T
  obtain ⟨T0, T1, T2, T3⟩ := T
  have hbl := body_len x
  refine px_paren wb pb base x.op x.n (str x.s) so x.args.length cap _ _ _ _ hor _ (by omega) v l (l ++ [tk 4 [40]]) ((l ++ [tk 4 [40]]) ++ body x) _ W hz
   (hput wb pb base l (by omega) 4 [40]) (Lib.hid fun v' W' h' => ?_) (Lib.hid fun v' W' h' => ?_) T0 T1 T2 T3
  ·exact px_bare wb pb base x ih 0 so cap v' _ W' (by omega) h' hL hx (by simp; omega)
  ·have h2 := (hput wb pb base _ (by simp; omega) 4 [41]).out v' W' h'
   have e : l ++ [tk 4 [40]] ++ body x ++ [tk 4 [41]] = l ++ tk 4 [40] :: (body x ++ [tk 4 [41]]) := by simp
   rw [e] at h2
   exact h2
 ·have hw : wr r x = body x := by unfold wr par; rw [if_neg (by simpa using h)]
  rw [hw]
  exact px_bare wb pb base x ih r so cap v l W (by omega) hz hL hx (by omega)
end Go.Proofs.YtplkphihmfhciaaGreatDoor

/- Tokens. -/
namespace Go.Proofs.YtplkphihmfhciaaGreatDoor
open Go Go.RowKit Go.Lib Go.Shelf WM TM EM

def gT (e : Ex) : List Tok := if vE e = 0 then body e else []
theorem vE_ok {e : Ex} (h : vE e = 0) : dep e ≤ 8 ∧ siz e ≤ 64 ∧ right e = true ∧ vnames e = true := by
 unfold vE at h
 split at h
 ·cases h
 ·rename_i h1
  have h1 := Decidable.of_not_not h1
  split at h
  ·cases h
  ·rename_i h2
   split at h
   ·cases h
   ·rename_i h3
    exact ⟨h1.1, h1.2, by simpa using h2, by simpa using h3⟩
theorem own_cap {w : World} {base n size : Nat} {e : TypeId} {v : Value} {xs : List Value} (h : w.ownsRow base e size v n xs) : ∀ ao c, v = .slice ao n c → n ≤ c := by
 intro ao c hv
 rcases h.2 with ⟨rfl, rfl⟩ | ⟨g, cap, cur, rfl, hb, hg, hnc, _⟩
 ·omega
 ·injection hv with _ _ hc
  omega
set_option maxRecDepth 100000 in
set_option maxHeartbeats 4000000 in
theorem mtokens (e : Ex) (so : Option Addr) (cap : Nat) (w : World) (hG : Gf w) (hL : Lies (e, so, cap) w) :
  Calls Tryz.prog 14 #[.agg #[.int .i64 e.op, .int .i64 e.n, .string (str e.s), .slice so e.args.length cap]] w fun r w' =>
   ∃ ao c, r = .returned (.tuple #[.slice ao (gT e).length c, .int .i64 (vE e)]) ∧ (gT e).length ≤ c ∧ TokensAt ao (gT e) w' ∧ Below w.heap.size w w' := by
 have MV := Lib.hid (fun W (hW : Below w.heap.size w W) => mvalidate e so cap W (hG.1.keep hW) (hL.keep hW))
 have HG := Lib.hid hG
 have HL := Lib.hid hL
 by_cases hv : vE e = 0
 ·have hok := vE_ok hv
  rw [hv] at MV ⊢
  have hgt : gT e = body e := by unfold gT; rw [if_pos hv]
  rw [hgt]
  have HOK := Lib.hid hok
  clear hgt hv hok hG hL
  go_enter Tryz.func14, Tryz.ntmps14
  go_wp2_with fail
  refine (MV.out _ (by repeat (first | exact bref _ | refine bdr ?_ | refine bal ?_ _))).mono ?_
  rintro r w1 ⟨rfl, hb1⟩
  have x1 := keepc hb1 (show (w.alloc (.cells #[.int .i64 e.op, .int .i64 e.n, .string (str e.s), .slice so e.args.length cap] 27)).cell? ⟨w.heap.size, 0, none⟩ = some (.int .i64 e.op) by simp [go_sem])
  have x2 := keepc hb1 (show (w.alloc (.cells #[.int .i64 e.op, .int .i64 e.n, .string (str e.s), .slice so e.args.length cap] 27)).cell? ⟨w.heap.size, 1, none⟩ = some (.int .i64 e.n) by simp [go_sem])
  have x3 := keepc hb1 (show (w.alloc (.cells #[.int .i64 e.op, .int .i64 e.n, .string (str e.s), .slice so e.args.length cap] 27)).cell? ⟨w.heap.size, 2, none⟩ = some (.string (str e.s)) by simp [go_sem])
  have x4 := keepc hb1 (show (w.alloc (.cells #[.int .i64 e.op, .int .i64 e.n, .string (str e.s), .slice so e.args.length cap] 27)).cell? ⟨w.heap.size, 3, none⟩ = some (.slice so e.args.length cap) by simp [go_sem])
  have HB1 : Hid (Below w.heap.size w w1) := Lib.hid (btr (bal (bref _) _) hb1)
  have hs1 := hb1.size
  have hbp := bal (bref w1) (.cells #[.slice none 0 0] 58)
  have y1 := keepc hbp x1
  have y2 := keepc hbp x2
  have y3 := keepc hbp x3
  have y4 := keepc hbp x4
  have hGf : Gf w1 := HG.out.keep HB1.out
  have hz : Pz w1 w1.heap.size (w1.heap.size + 1) (.slice none 0 0) [] (w1.alloc (.cells #[.slice none 0 0] 58)) :=
   ⟨⟨⟨by simp [go_sem], by simp [go_sem]⟩, World.ownsRow_nil _ _ _ _⟩, hbp, by simp, Nat.le_refl _, by omega, hGf⟩
  have hEx := mpexpr w1 w1.heap.size (w1.heap.size + 1) e 0 so cap _ [] _ (by omega) hz (HL.out.1.keep HB1.out) HOK.out.2.2.1 (by have := HOK.out.2.1; simp; omega)
  have HEX := Lib.hid hEx
  clear hb1 hbp x1 x2 x3 x4 hEx hz
  go_wp2_with fail
  refine HEX.out.mono ?_
  rintro r w2 ⟨rfl, v2, hz2, hp2⟩
  rw [List.nil_append, wr_zero] at hz2
  have hcap := own_cap hz2.1.2
  obtain ⟨ho1, ao, c, rfl, hT⟩ := own_toks hz2.1.2
  have HCP := Lib.hid (hcap ao c rfl)
  clear hcap
  have z1 := hz2.1.1.1
  have HT := Lib.hid hT
  have HB2 : Hid (Below w.heap.size w w2) := Lib.hid (btr HB1.out hz2.2.1)
  clear hz2 hp2 hT y1 y2 y3 y4
  go_wp2_with fail
  go_ret2
  exact ⟨ao, c, rfl, HCP.out, HT.out, HB2.out⟩
 ·have hgt : gT e = [] := by unfold gT; rw [if_neg hv]
  rw [hgt]
  have hv' : (vE e == 0) = false := by rw [beq_eq_false_iff_ne]; exact hv
  obtain ⟨E, hE⟩ : ∃ E, vE e = E := ⟨_, rfl⟩
  rw [hE] at MV hv hv' ⊢
  clear hgt hE hG hL
  go_enter Tryz.func14, Tryz.ntmps14
  go_wp2_with fail
  refine (MV.out _ (by repeat (first | exact bref _ | refine bdr ?_ | refine bal ?_ _))).mono ?_
  rintro r w1 ⟨rfl, hb1⟩
  have HB1 : Hid (Below w.heap.size w w1) := Lib.hid (btr (bal (bref _) _) hb1)
  clear hb1
  go_wp2_with fail
  go_ret2
  exact ⟨none, 0, rfl, Nat.le_refl _, TokensAt.nil _ _, HB1.out⟩
end Go.Proofs.YtplkphihmfhciaaGreatDoor
