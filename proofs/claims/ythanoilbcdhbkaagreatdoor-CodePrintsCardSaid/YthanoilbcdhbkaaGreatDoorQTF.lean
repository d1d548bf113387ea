/-
  Tokens: contracts of package token's mark and first.
-/
import Derived.Test.YthanoilbcdhbkaaGreatDoorQC
namespace Go.Proofs.YthanoilbcdhbkaaGreatDoor
open Go Go.RowKit Go.Lib WM TM

def Mk (w : World) : Prop := 4 < w.heap.size ∧ ∀ i, i < 16 → w.cell? ⟨4, i, none⟩ = some (.string (str (mks.getD i [])))
theorem Mk.keep {w w' : World} (h : Mk w) (hb : Below w.heap.size w w') : Mk w' :=
 ⟨by have := h.1; have := hb.size; omega, fun i hi => keepc hb (h.2 i hi)⟩
def mkE (l : List UInt8) : Int := if mrk l = 0 then 2 else 0
def mkK (l : List UInt8) : Int := if mrk l = 0 then 0 else 4
def mkX (l : List UInt8) : List UInt8 := if mrk l = 0 then [] else l.take (mrk l)
theorem mk_some {l : List UInt8} (hl : l ≠ []) {m : List UInt8} (h : mks.find? (hasPrefix l) = some m) : mkE l = 0 ∧ mkK l = 4 ∧ mkX l = m := by
 cases l with
 | nil => exact absurd rfl hl
 | cons c r =>
  rw [find_mks] at h
  by_cases h0 : mrk (c :: r) = 0
  ·rw [if_pos h0] at h; exact absurd h (by simp)
  ·rw [if_neg h0] at h
   unfold mkE mkK mkX
   rw [if_neg h0, if_neg h0, if_neg h0]
   exact ⟨rfl, rfl, Option.some.inj h⟩
theorem mk_none {l : List UInt8} (hl : l ≠ []) (h : mks.find? (hasPrefix l) = none) : mkE l = 2 ∧ mkK l = 0 ∧ mkX l = [] := by
 cases l with
 | nil => exact absurd rfl hl
 | cons c r =>
  rw [find_mks] at h
  by_cases h0 : mrk (c :: r) = 0
  ·unfold mkE mkK mkX
   rw [if_pos h0, if_pos h0, if_pos h0]
   exact ⟨rfl, rfl, rfl⟩
  ·rw [if_neg h0] at h; exact absurd h (by simp)
theorem mprefix (s p : ByteArray) (w : World) :
  Calls Tryz.prog 130 #[.string s, .string p] w fun e w' => e = .returned (.bool (hasPrefix (byt s) (byt p))) ∧ w = w' :=
 (Tryz.strings_HasPrefix s p w).mono fun _ _ ⟨he, hw⟩ => ⟨he, hw.symm⟩

theorem idx_agg (cs : Array Value) (i : Nat) (v : Value) (w : World) (hi : i < 16) (h : cs[i]? = some v) :
  (Instr.index 161 (.agg cs) (.int .i64 (i : Int))).run Tryz.prog w = .ok v w := by
 have hu := Tryz.underlying161
 have h1 : (0 ≤ (i : Int) ∧ (i : Int) < (16 : Nat)) := by omega
 simp [Instr.index, run_underlying hu, asIntOf, h1, go_sem]
 rw [if_pos hi, h]
 rfl
set_option maxRecDepth 100000 in
set_option maxHeartbeats 4000000 in
theorem mmark (s : ByteArray) (hs : byt s ≠ []) (w : World) (hM : Mk w) :
  Calls Tryz.prog 118 #[.string s] w fun e w' => e = .returned (.tuple #[tokV (mkK (byt s)) 0 (mkX (byt s)), .int .i64 (mkE (byt s))]) ∧ Below w.heap.size w w' := by
 have HP := Lib.hid (fun p W => mprefix s p W)
 have HS := Lib.hid hs
 obtain ⟨hg, hM⟩ := hM
 have c0 : w.cell? ⟨4, 0, none⟩ = some (.string ⟨#[123]⟩) := hM 0 (by decide)
 have c1 : w.cell? ⟨4, 1, none⟩ = some (.string ⟨#[125]⟩) := hM 1 (by decide)
 have c2 : w.cell? ⟨4, 2, none⟩ = some (.string ⟨#[40]⟩) := hM 2 (by decide)
 have c3 : w.cell? ⟨4, 3, none⟩ = some (.string ⟨#[41]⟩) := hM 3 (by decide)
 have c4 : w.cell? ⟨4, 4, none⟩ = some (.string ⟨#[44]⟩) := hM 4 (by decide)
 have c5 : w.cell? ⟨4, 5, none⟩ = some (.string ⟨#[59]⟩) := hM 5 (by decide)
 have c6 : w.cell? ⟨4, 6, none⟩ = some (.string ⟨#[58]⟩) := hM 6 (by decide)
 have c7 : w.cell? ⟨4, 7, none⟩ = some (.string ⟨#[36]⟩) := hM 7 (by decide)
 have c8 : w.cell? ⟨4, 8, none⟩ = some (.string ⟨#[43]⟩) := hM 8 (by decide)
 have c9 : w.cell? ⟨4, 9, none⟩ = some (.string ⟨#[45]⟩) := hM 9 (by decide)
 have c10 : w.cell? ⟨4, 10, none⟩ = some (.string ⟨#[42]⟩) := hM 10 (by decide)
 have c11 : w.cell? ⟨4, 11, none⟩ = some (.string ⟨#[47]⟩) := hM 11 (by decide)
 have c12 : w.cell? ⟨4, 12, none⟩ = some (.string ⟨#[61, 61]⟩) := hM 12 (by decide)
 have c13 : w.cell? ⟨4, 13, none⟩ = some (.string ⟨#[33, 61]⟩) := hM 13 (by decide)
 have c14 : w.cell? ⟨4, 14, none⟩ = some (.string ⟨#[60, 61]⟩) := hM 14 (by decide)
 have c15 : w.cell? ⟨4, 15, none⟩ = some (.string ⟨#[60]⟩) := hM 15 (by decide)
 obtain ⟨K, hK⟩ : ∃ K, mkK (byt s) = K := ⟨_, rfl⟩
 obtain ⟨X, hX⟩ : ∃ X, mkX (byt s) = X := ⟨_, rfl⟩
 obtain ⟨E, hE⟩ : ∃ E, mkE (byt s) = E := ⟨_, rfl⟩
 rw [hK, hX, hE]
 have HR := Lib.hid (And.intro hK (And.intro hX hE))
 clear hK hX hE hM hs
 go_enter Tryz.func118, Tryz.ntmps118
 go_wp2_with fail
 go_loop [7] (fun i => ∃ (k : Nat), k ≤ 16 ∧ i = .int .i64 k ∧ (mks.drop k).find? (hasPrefix (byt s)) = mks.find? (hasPrefix (byt s))) (fun i => 16 - (RowKit.intOf i).toNat)
 case atStart => exact ⟨0, by omega, rfl, rfl⟩
 case round =>
  obtain ⟨k, hk, rfl, he⟩ := hrel
  rcases (by omega : k = 0 ∨ k = 1 ∨ k = 2 ∨ k = 3 ∨ k = 4 ∨ k = 5 ∨ k = 6 ∨ k = 7 ∨ k = 8 ∨ k = 9 ∨ k = 10 ∨ k = 11 ∨ k = 12 ∨ k = 13 ∨ k = 14 ∨ k = 15 ∨ k = 16) with rfl | rfl | rfl | rfl | rfl | rfl | rfl | rfl | rfl | rfl | rfl | rfl | rfl | rfl | rfl | rfl | rfl
  ·have hd : mks.drop 0 = [123] :: mks.drop 1 := rfl
   rw [hd, List.find?_cons] at he
   cases hb : hasPrefix (byt s) [123]
   ·rw [hb] at he
    have HE := Lib.hid he
    have HPK : Hid (∀ W, Calls Tryz.prog 130 #[.string s, .string ⟨#[123]⟩] W fun e w' => e = .returned (.bool false) ∧ W = w') := Lib.hid (fun W => by
     have := HP.out ⟨#[123]⟩ W
     rw [show byt ⟨#[123]⟩ = [123] from rfl, hb] at this
     exact this)
    have ix : ∀ W, (Instr.index 161 (.agg #[.string ⟨#[123]⟩, .string ⟨#[125]⟩, .string ⟨#[40]⟩, .string ⟨#[41]⟩, .string ⟨#[44]⟩, .string ⟨#[59]⟩, .string ⟨#[58]⟩, .string ⟨#[36]⟩, .string ⟨#[43]⟩, .string ⟨#[45]⟩, .string ⟨#[42]⟩, .string ⟨#[47]⟩, .string ⟨#[61, 61]⟩, .string ⟨#[33, 61]⟩, .string ⟨#[60, 61]⟩, .string ⟨#[60]⟩]) (.int .i64 0)).run Tryz.prog W = .ok (.string ⟨#[123]⟩) W := fun W => idx_agg _ 0 _ W (by decide) rfl
    clear he hd hb
    go_wp2_with fail
    refine (HPK.out _).mono ?_
    rintro e w1 ⟨rfl, rfl⟩
    go_wp2_with fail
    go_round
    case rel => exact ⟨1, by omega, by go_num, HE.out⟩
    case measure => simp [RowKit.intOf]
   ·rw [hb] at he
    have HE := Lib.hid (mk_some HS.out he.symm)
    have HPK : Hid (∀ W, Calls Tryz.prog 130 #[.string s, .string ⟨#[123]⟩] W fun e w' => e = .returned (.bool true) ∧ W = w') := Lib.hid (fun W => by
     have := HP.out ⟨#[123]⟩ W
     rw [show byt ⟨#[123]⟩ = [123] from rfl, hb] at this
     exact this)
    have ix : ∀ W, (Instr.index 161 (.agg #[.string ⟨#[123]⟩, .string ⟨#[125]⟩, .string ⟨#[40]⟩, .string ⟨#[41]⟩, .string ⟨#[44]⟩, .string ⟨#[59]⟩, .string ⟨#[58]⟩, .string ⟨#[36]⟩, .string ⟨#[43]⟩, .string ⟨#[45]⟩, .string ⟨#[42]⟩, .string ⟨#[47]⟩, .string ⟨#[61, 61]⟩, .string ⟨#[33, 61]⟩, .string ⟨#[60, 61]⟩, .string ⟨#[60]⟩]) (.int .i64 0)).run Tryz.prog W = .ok (.string ⟨#[123]⟩) W := fun W => idx_agg _ 0 _ W (by decide) rfl
    clear he hd hb
    go_wp2_with fail
    refine (HPK.out _).mono ?_
    rintro e w1 ⟨rfl, rfl⟩
    go_wp2_with fail
    refine bodyPost_ret (v := .tuple #[.agg #[.int .i64 4, .int .i64 0, .string ⟨#[123]⟩], .int .i64 0]) (by simp [results, Tryz.results118, go_sem]) rfl ⟨by rw [← HR.out.1, ← HR.out.2.1, ← HR.out.2.2, HE.out.1, HE.out.2.1, HE.out.2.2]; rfl, ?_⟩
    (repeat (first | exact bref _ | refine bdr ?_ | refine bal ?_ _ | refine bset ?_ (by simp; done) _))
  ·have hd : mks.drop 1 = [125] :: mks.drop 2 := rfl
   rw [hd, List.find?_cons] at he
   cases hb : hasPrefix (byt s) [125]
   ·rw [hb] at he
    have HE := Lib.hid he
    have HPK : Hid (∀ W, Calls Tryz.prog 130 #[.string s, .string ⟨#[125]⟩] W fun e w' => e = .returned (.bool false) ∧ W = w') := Lib.hid (fun W => by
     have := HP.out ⟨#[125]⟩ W
     rw [show byt ⟨#[125]⟩ = [125] from rfl, hb] at this
     exact this)
    have ix : ∀ W, (Instr.index 161 (.agg #[.string ⟨#[123]⟩, .string ⟨#[125]⟩, .string ⟨#[40]⟩, .string ⟨#[41]⟩, .string ⟨#[44]⟩, .string ⟨#[59]⟩, .string ⟨#[58]⟩, .string ⟨#[36]⟩, .string ⟨#[43]⟩, .string ⟨#[45]⟩, .string ⟨#[42]⟩, .string ⟨#[47]⟩, .string ⟨#[61, 61]⟩, .string ⟨#[33, 61]⟩, .string ⟨#[60, 61]⟩, .string ⟨#[60]⟩]) (.int .i64 1)).run Tryz.prog W = .ok (.string ⟨#[125]⟩) W := fun W => idx_agg _ 1 _ W (by decide) rfl
    clear he hd hb
    go_wp2_with fail
    refine (HPK.out _).mono ?_
    rintro e w1 ⟨rfl, rfl⟩
    go_wp2_with fail
    go_round
    case rel => exact ⟨2, by omega, by go_num, HE.out⟩
    case measure => simp [RowKit.intOf]
   ·rw [hb] at he
    have HE := Lib.hid (mk_some HS.out he.symm)
    have HPK : Hid (∀ W, Calls Tryz.prog 130 #[.string s, .string ⟨#[125]⟩] W fun e w' => e = .returned (.bool true) ∧ W = w') := Lib.hid (fun W => by
     have := HP.out ⟨#[125]⟩ W
     rw [show byt ⟨#[125]⟩ = [125] from rfl, hb] at this
     exact this)
    have ix : ∀ W, (Instr.index 161 (.agg #[.string ⟨#[123]⟩, .string ⟨#[125]⟩, .string ⟨#[40]⟩, .string ⟨#[41]⟩, .string ⟨#[44]⟩, .string ⟨#[59]⟩, .string ⟨#[58]⟩, .string ⟨#[36]⟩, .string ⟨#[43]⟩, .string ⟨#[45]⟩, .string ⟨#[42]⟩, .string ⟨#[47]⟩, .string ⟨#[61, 61]⟩, .string ⟨#[33, 61]⟩, .string ⟨#[60, 61]⟩, .string ⟨#[60]⟩]) (.int .i64 1)).run Tryz.prog W = .ok (.string ⟨#[125]⟩) W := fun W => idx_agg _ 1 _ W (by decide) rfl
    clear he hd hb
    go_wp2_with fail
    refine (HPK.out _).mono ?_
    rintro e w1 ⟨rfl, rfl⟩
    go_wp2_with fail
    refine bodyPost_ret (v := .tuple #[.agg #[.int .i64 4, .int .i64 0, .string ⟨#[125]⟩], .int .i64 0]) (by simp [results, Tryz.results118, go_sem]) rfl ⟨by rw [← HR.out.1, ← HR.out.2.1, ← HR.out.2.2, HE.out.1, HE.out.2.1, HE.out.2.2]; rfl, ?_⟩
    (repeat (first | exact bref _ | refine bdr ?_ | refine bal ?_ _ | refine bset ?_ (by simp; done) _))
  ·have hd : mks.drop 2 = [40] :: mks.drop 3 := rfl
   rw [hd, List.find?_cons] at he
   cases hb : hasPrefix (byt s) [40]
   ·rw [hb] at he
    have HE := Lib.hid he
    have HPK : Hid (∀ W, Calls Tryz.prog 130 #[.string s, .string ⟨#[40]⟩] W fun e w' => e = .returned (.bool false) ∧ W = w') := Lib.hid (fun W => by
     have := HP.out ⟨#[40]⟩ W
     rw [show byt ⟨#[40]⟩ = [40] from rfl, hb] at this
     exact this)
    have ix : ∀ W, (Instr.index 161 (.agg #[.string ⟨#[123]⟩, .string ⟨#[125]⟩, .string ⟨#[40]⟩, .string ⟨#[41]⟩, .string ⟨#[44]⟩, .string ⟨#[59]⟩, .string ⟨#[58]⟩, .string ⟨#[36]⟩, .string ⟨#[43]⟩, .string ⟨#[45]⟩, .string ⟨#[42]⟩, .string ⟨#[47]⟩, .string ⟨#[61, 61]⟩, .string ⟨#[33, 61]⟩, .string ⟨#[60, 61]⟩, .string ⟨#[60]⟩]) (.int .i64 2)).run Tryz.prog W = .ok (.string ⟨#[40]⟩) W := fun W => idx_agg _ 2 _ W (by decide) rfl
    clear he hd hb
    go_wp2_with fail
    refine (HPK.out _).mono ?_
    rintro e w1 ⟨rfl, rfl⟩
    go_wp2_with fail
    go_round
    case rel => exact ⟨3, by omega, by go_num, HE.out⟩
    case measure => simp [RowKit.intOf]
   ·rw [hb] at he
    have HE := Lib.hid (mk_some HS.out he.symm)
    have HPK : Hid (∀ W, Calls Tryz.prog 130 #[.string s, .string ⟨#[40]⟩] W fun e w' => e = .returned (.bool true) ∧ W = w') := Lib.hid (fun W => by
     have := HP.out ⟨#[40]⟩ W
     rw [show byt ⟨#[40]⟩ = [40] from rfl, hb] at this
     exact this)
    have ix : ∀ W, (Instr.index 161 (.agg #[.string ⟨#[123]⟩, .string ⟨#[125]⟩, .string ⟨#[40]⟩, .string ⟨#[41]⟩, .string ⟨#[44]⟩, .string ⟨#[59]⟩, .string ⟨#[58]⟩, .string ⟨#[36]⟩, .string ⟨#[43]⟩, .string ⟨#[45]⟩, .string ⟨#[42]⟩, .string ⟨#[47]⟩, .string ⟨#[61, 61]⟩, .string ⟨#[33, 61]⟩, .string ⟨#[60, 61]⟩, .string ⟨#[60]⟩]) (.int .i64 2)).run Tryz.prog W = .ok (.string ⟨#[40]⟩) W := fun W => idx_agg _ 2 _ W (by decide) rfl
    clear he hd hb
    go_wp2_with fail
    refine (HPK.out _).mono ?_
    rintro e w1 ⟨rfl, rfl⟩
    go_wp2_with fail
    refine bodyPost_ret (v := .tuple #[.agg #[.int .i64 4, .int .i64 0, .string ⟨#[40]⟩], .int .i64 0]) (by simp [results, Tryz.results118, go_sem]) rfl ⟨by rw [← HR.out.1, ← HR.out.2.1, ← HR.out.2.2, HE.out.1, HE.out.2.1, HE.out.2.2]; rfl, ?_⟩
    (repeat (first | exact bref _ | refine bdr ?_ | refine bal ?_ _ | refine bset ?_ (by simp; done) _))
  ·have hd : mks.drop 3 = [41] :: mks.drop 4 := rfl
   rw [hd, List.find?_cons] at he
   cases hb : hasPrefix (byt s) [41]
   ·rw [hb] at he
    have HE := Lib.hid he
    have HPK : Hid (∀ W, Calls Tryz.prog 130 #[.string s, .string ⟨#[41]⟩] W fun e w' => e = .returned (.bool false) ∧ W = w') := Lib.hid (fun W => by
     have := HP.out ⟨#[41]⟩ W
     rw [show byt ⟨#[41]⟩ = [41] from rfl, hb] at this
     exact this)
    have ix : ∀ W, (Instr.index 161 (.agg #[.string ⟨#[123]⟩, .string ⟨#[125]⟩, .string ⟨#[40]⟩, .string ⟨#[41]⟩, .string ⟨#[44]⟩, .string ⟨#[59]⟩, .string ⟨#[58]⟩, .string ⟨#[36]⟩, .string ⟨#[43]⟩, .string ⟨#[45]⟩, .string ⟨#[42]⟩, .string ⟨#[47]⟩, .string ⟨#[61, 61]⟩, .string ⟨#[33, 61]⟩, .string ⟨#[60, 61]⟩, .string ⟨#[60]⟩]) (.int .i64 3)).run Tryz.prog W = .ok (.string ⟨#[41]⟩) W := fun W => idx_agg _ 3 _ W (by decide) rfl
    clear he hd hb
    go_wp2_with fail
    refine (HPK.out _).mono ?_
    rintro e w1 ⟨rfl, rfl⟩
    go_wp2_with fail
    go_round
    case rel => exact ⟨4, by omega, by go_num, HE.out⟩
    case measure => simp [RowKit.intOf]
   ·rw [hb] at he
    have HE := Lib.hid (mk_some HS.out he.symm)
    have HPK : Hid (∀ W, Calls Tryz.prog 130 #[.string s, .string ⟨#[41]⟩] W fun e w' => e = .returned (.bool true) ∧ W = w') := Lib.hid (fun W => by
     have := HP.out ⟨#[41]⟩ W
     rw [show byt ⟨#[41]⟩ = [41] from rfl, hb] at this
     exact this)
    have ix : ∀ W, (Instr.index 161 (.agg #[.string ⟨#[123]⟩, .string ⟨#[125]⟩, .string ⟨#[40]⟩, .string ⟨#[41]⟩, .string ⟨#[44]⟩, .string ⟨#[59]⟩, .string ⟨#[58]⟩, .string ⟨#[36]⟩, .string ⟨#[43]⟩, .string ⟨#[45]⟩, .string ⟨#[42]⟩, .string ⟨#[47]⟩, .string ⟨#[61, 61]⟩, .string ⟨#[33, 61]⟩, .string ⟨#[60, 61]⟩, .string ⟨#[60]⟩]) (.int .i64 3)).run Tryz.prog W = .ok (.string ⟨#[41]⟩) W := fun W => idx_agg _ 3 _ W (by decide) rfl
    clear he hd hb
    go_wp2_with fail
    refine (HPK.out _).mono ?_
    rintro e w1 ⟨rfl, rfl⟩
    go_wp2_with fail
    refine bodyPost_ret (v := .tuple #[.agg #[.int .i64 4, .int .i64 0, .string ⟨#[41]⟩], .int .i64 0]) (by simp [results, Tryz.results118, go_sem]) rfl ⟨by rw [← HR.out.1, ← HR.out.2.1, ← HR.out.2.2, HE.out.1, HE.out.2.1, HE.out.2.2]; rfl, ?_⟩
    (repeat (first | exact bref _ | refine bdr ?_ | refine bal ?_ _ | refine bset ?_ (by simp; done) _))
  ·have hd : mks.drop 4 = [44] :: mks.drop 5 := rfl
   rw [hd, List.find?_cons] at he
   cases hb : hasPrefix (byt s) [44]
   ·rw [hb] at he
    have HE := Lib.hid he
    have HPK : Hid (∀ W, Calls Tryz.prog 130 #[.string s, .string ⟨#[44]⟩] W fun e w' => e = .returned (.bool false) ∧ W = w') := Lib.hid (fun W => by
     have := HP.out ⟨#[44]⟩ W
     rw [show byt ⟨#[44]⟩ = [44] from rfl, hb] at this
     exact this)
    have ix : ∀ W, (Instr.index 161 (.agg #[.string ⟨#[123]⟩, .string ⟨#[125]⟩, .string ⟨#[40]⟩, .string ⟨#[41]⟩, .string ⟨#[44]⟩, .string ⟨#[59]⟩, .string ⟨#[58]⟩, .string ⟨#[36]⟩, .string ⟨#[43]⟩, .string ⟨#[45]⟩, .string ⟨#[42]⟩, .string ⟨#[47]⟩, .string ⟨#[61, 61]⟩, .string ⟨#[33, 61]⟩, .string ⟨#[60, 61]⟩, .string ⟨#[60]⟩]) (.int .i64 4)).run Tryz.prog W = .ok (.string ⟨#[44]⟩) W := fun W => idx_agg _ 4 _ W (by decide) rfl
    clear he hd hb
    go_wp2_with fail
    refine (HPK.out _).mono ?_
    rintro e w1 ⟨rfl, rfl⟩
    go_wp2_with fail
    go_round
    case rel => exact ⟨5, by omega, by go_num, HE.out⟩
    case measure => simp [RowKit.intOf]
   ·rw [hb] at he
    have HE := Lib.hid (mk_some HS.out he.symm)
    have HPK : Hid (∀ W, Calls Tryz.prog 130 #[.string s, .string ⟨#[44]⟩] W fun e w' => e = .returned (.bool true) ∧ W = w') := Lib.hid (fun W => by
     have := HP.out ⟨#[44]⟩ W
     rw [show byt ⟨#[44]⟩ = [44] from rfl, hb] at this
     exact this)
    have ix : ∀ W, (Instr.index 161 (.agg #[.string ⟨#[123]⟩, .string ⟨#[125]⟩, .string ⟨#[40]⟩, .string ⟨#[41]⟩, .string ⟨#[44]⟩, .string ⟨#[59]⟩, .string ⟨#[58]⟩, .string ⟨#[36]⟩, .string ⟨#[43]⟩, .string ⟨#[45]⟩, .string ⟨#[42]⟩, .string ⟨#[47]⟩, .string ⟨#[61, 61]⟩, .string ⟨#[33, 61]⟩, .string ⟨#[60, 61]⟩, .string ⟨#[60]⟩]) (.int .i64 4)).run Tryz.prog W = .ok (.string ⟨#[44]⟩) W := fun W => idx_agg _ 4 _ W (by decide) rfl
    clear he hd hb
    go_wp2_with fail
    refine (HPK.out _).mono ?_
    rintro e w1 ⟨rfl, rfl⟩
    go_wp2_with fail
    refine bodyPost_ret (v := .tuple #[.agg #[.int .i64 4, .int .i64 0, .string ⟨#[44]⟩], .int .i64 0]) (by simp [results, Tryz.results118, go_sem]) rfl ⟨by rw [← HR.out.1, ← HR.out.2.1, ← HR.out.2.2, HE.out.1, HE.out.2.1, HE.out.2.2]; rfl, ?_⟩
    (repeat (first | exact bref _ | refine bdr ?_ | refine bal ?_ _ | refine bset ?_ (by simp; done) _))
  ·have hd : mks.drop 5 = [59] :: mks.drop 6 := rfl
   rw [hd, List.find?_cons] at he
   cases hb : hasPrefix (byt s) [59]
   ·rw [hb] at he
    have HE := Lib.hid he
    have HPK : Hid (∀ W, Calls Tryz.prog 130 #[.string s, .string ⟨#[59]⟩] W fun e w' => e = .returned (.bool false) ∧ W = w') := Lib.hid (fun W => by
     have := HP.out ⟨#[59]⟩ W
     rw [show byt ⟨#[59]⟩ = [59] from rfl, hb] at this
     exact this)
    have ix : ∀ W, (Instr.index 161 (.agg #[.string ⟨#[123]⟩, .string ⟨#[125]⟩, .string ⟨#[40]⟩, .string ⟨#[41]⟩, .string ⟨#[44]⟩, .string ⟨#[59]⟩, .string ⟨#[58]⟩, .string ⟨#[36]⟩, .string ⟨#[43]⟩, .string ⟨#[45]⟩, .string ⟨#[42]⟩, .string ⟨#[47]⟩, .string ⟨#[61, 61]⟩, .string ⟨#[33, 61]⟩, .string ⟨#[60, 61]⟩, .string ⟨#[60]⟩]) (.int .i64 5)).run Tryz.prog W = .ok (.string ⟨#[59]⟩) W := fun W => idx_agg _ 5 _ W (by decide) rfl
    clear he hd hb
    go_wp2_with fail
    refine (HPK.out _).mono ?_
    rintro e w1 ⟨rfl, rfl⟩
    go_wp2_with fail
    go_round
    case rel => exact ⟨6, by omega, by go_num, HE.out⟩
    case measure => simp [RowKit.intOf]
   ·rw [hb] at he
    have HE := Lib.hid (mk_some HS.out he.symm)
    have HPK : Hid (∀ W, Calls Tryz.prog 130 #[.string s, .string ⟨#[59]⟩] W fun e w' => e = .returned (.bool true) ∧ W = w') := Lib.hid (fun W => by
     have := HP.out ⟨#[59]⟩ W
     rw [show byt ⟨#[59]⟩ = [59] from rfl, hb] at this
     exact this)
    have ix : ∀ W, (Instr.index 161 (.agg #[.string ⟨#[123]⟩, .string ⟨#[125]⟩, .string ⟨#[40]⟩, .string ⟨#[41]⟩, .string ⟨#[44]⟩, .string ⟨#[59]⟩, .string ⟨#[58]⟩, .string ⟨#[36]⟩, .string ⟨#[43]⟩, .string ⟨#[45]⟩, .string ⟨#[42]⟩, .string ⟨#[47]⟩, .string ⟨#[61, 61]⟩, .string ⟨#[33, 61]⟩, .string ⟨#[60, 61]⟩, .string ⟨#[60]⟩]) (.int .i64 5)).run Tryz.prog W = .ok (.string ⟨#[59]⟩) W := fun W => idx_agg _ 5 _ W (by decide) rfl
    clear he hd hb
    go_wp2_with fail
    refine (HPK.out _).mono ?_
    rintro e w1 ⟨rfl, rfl⟩
    go_wp2_with fail
    refine bodyPost_ret (v := .tuple #[.agg #[.int .i64 4, .int .i64 0, .string ⟨#[59]⟩], .int .i64 0]) (by simp [results, Tryz.results118, go_sem]) rfl ⟨by rw [← HR.out.1, ← HR.out.2.1, ← HR.out.2.2, HE.out.1, HE.out.2.1, HE.out.2.2]; rfl, ?_⟩
    (repeat (first | exact bref _ | refine bdr ?_ | refine bal ?_ _ | refine bset ?_ (by simp; done) _))
  ·have hd : mks.drop 6 = [58] :: mks.drop 7 := rfl
   rw [hd, List.find?_cons] at he
   cases hb : hasPrefix (byt s) [58]
   ·rw [hb] at he
    have HE := Lib.hid he
    have HPK : Hid (∀ W, Calls Tryz.prog 130 #[.string s, .string ⟨#[58]⟩] W fun e w' => e = .returned (.bool false) ∧ W = w') := Lib.hid (fun W => by
     have := HP.out ⟨#[58]⟩ W
     rw [show byt ⟨#[58]⟩ = [58] from rfl, hb] at this
     exact this)
    have ix : ∀ W, (Instr.index 161 (.agg #[.string ⟨#[123]⟩, .string ⟨#[125]⟩, .string ⟨#[40]⟩, .string ⟨#[41]⟩, .string ⟨#[44]⟩, .string ⟨#[59]⟩, .string ⟨#[58]⟩, .string ⟨#[36]⟩, .string ⟨#[43]⟩, .string ⟨#[45]⟩, .string ⟨#[42]⟩, .string ⟨#[47]⟩, .string ⟨#[61, 61]⟩, .string ⟨#[33, 61]⟩, .string ⟨#[60, 61]⟩, .string ⟨#[60]⟩]) (.int .i64 6)).run Tryz.prog W = .ok (.string ⟨#[58]⟩) W := fun W => idx_agg _ 6 _ W (by decide) rfl
    clear he hd hb
    go_wp2_with fail
    refine (HPK.out _).mono ?_
    rintro e w1 ⟨rfl, rfl⟩
    go_wp2_with fail
    go_round
    case rel => exact ⟨7, by omega, by go_num, HE.out⟩
    case measure => simp [RowKit.intOf]
   ·rw [hb] at he
    have HE := Lib.hid (mk_some HS.out he.symm)
    have HPK : Hid (∀ W, Calls Tryz.prog 130 #[.string s, .string ⟨#[58]⟩] W fun e w' => e = .returned (.bool true) ∧ W = w') := Lib.hid (fun W => by
     have := HP.out ⟨#[58]⟩ W
     rw [show byt ⟨#[58]⟩ = [58] from rfl, hb] at this
     exact this)
    have ix : ∀ W, (Instr.index 161 (.agg #[.string ⟨#[123]⟩, .string ⟨#[125]⟩, .string ⟨#[40]⟩, .string ⟨#[41]⟩, .string ⟨#[44]⟩, .string ⟨#[59]⟩, .string ⟨#[58]⟩, .string ⟨#[36]⟩, .string ⟨#[43]⟩, .string ⟨#[45]⟩, .string ⟨#[42]⟩, .string ⟨#[47]⟩, .string ⟨#[61, 61]⟩, .string ⟨#[33, 61]⟩, .string ⟨#[60, 61]⟩, .string ⟨#[60]⟩]) (.int .i64 6)).run Tryz.prog W = .ok (.string ⟨#[58]⟩) W := fun W => idx_agg _ 6 _ W (by decide) rfl
    clear he hd hb
    go_wp2_with fail
    refine (HPK.out _).mono ?_
    rintro e w1 ⟨rfl, rfl⟩
    go_wp2_with fail
    refine bodyPost_ret (v := .tuple #[.agg #[.int .i64 4, .int .i64 0, .string ⟨#[58]⟩], .int .i64 0]) (by simp [results, Tryz.results118, go_sem]) rfl ⟨by rw [← HR.out.1, ← HR.out.2.1, ← HR.out.2.2, HE.out.1, HE.out.2.1, HE.out.2.2]; rfl, ?_⟩
    (repeat (first | exact bref _ | refine bdr ?_ | refine bal ?_ _ | refine bset ?_ (by simp; done) _))
  ·have hd : mks.drop 7 = [36] :: mks.drop 8 := rfl
   rw [hd, List.find?_cons] at he
   cases hb : hasPrefix (byt s) [36]
   ·rw [hb] at he
    have HE := Lib.hid he
    have HPK : Hid (∀ W, Calls Tryz.prog 130 #[.string s, .string ⟨#[36]⟩] W fun e w' => e = .returned (.bool false) ∧ W = w') := Lib.hid (fun W => by
     have := HP.out ⟨#[36]⟩ W
     rw [show byt ⟨#[36]⟩ = [36] from rfl, hb] at this
     exact this)
    have ix : ∀ W, (Instr.index 161 (.agg #[.string ⟨#[123]⟩, .string ⟨#[125]⟩, .string ⟨#[40]⟩, .string ⟨#[41]⟩, .string ⟨#[44]⟩, .string ⟨#[59]⟩, .string ⟨#[58]⟩, .string ⟨#[36]⟩, .string ⟨#[43]⟩, .string ⟨#[45]⟩, .string ⟨#[42]⟩, .string ⟨#[47]⟩, .string ⟨#[61, 61]⟩, .string ⟨#[33, 61]⟩, .string ⟨#[60, 61]⟩, .string ⟨#[60]⟩]) (.int .i64 7)).run Tryz.prog W = .ok (.string ⟨#[36]⟩) W := fun W => idx_agg _ 7 _ W (by decide) rfl
    clear he hd hb
    go_wp2_with fail
    refine (HPK.out _).mono ?_
    rintro e w1 ⟨rfl, rfl⟩
    go_wp2_with fail
    go_round
    case rel => exact ⟨8, by omega, by go_num, HE.out⟩
    case measure => simp [RowKit.intOf]
   ·rw [hb] at he
    have HE := Lib.hid (mk_some HS.out he.symm)
    have HPK : Hid (∀ W, Calls Tryz.prog 130 #[.string s, .string ⟨#[36]⟩] W fun e w' => e = .returned (.bool true) ∧ W = w') := Lib.hid (fun W => by
     have := HP.out ⟨#[36]⟩ W
     rw [show byt ⟨#[36]⟩ = [36] from rfl, hb] at this
     exact this)
    have ix : ∀ W, (Instr.index 161 (.agg #[.string ⟨#[123]⟩, .string ⟨#[125]⟩, .string ⟨#[40]⟩, .string ⟨#[41]⟩, .string ⟨#[44]⟩, .string ⟨#[59]⟩, .string ⟨#[58]⟩, .string ⟨#[36]⟩, .string ⟨#[43]⟩, .string ⟨#[45]⟩, .string ⟨#[42]⟩, .string ⟨#[47]⟩, .string ⟨#[61, 61]⟩, .string ⟨#[33, 61]⟩, .string ⟨#[60, 61]⟩, .string ⟨#[60]⟩]) (.int .i64 7)).run Tryz.prog W = .ok (.string ⟨#[36]⟩) W := fun W => idx_agg _ 7 _ W (by decide) rfl
    clear he hd hb
    go_wp2_with fail
    refine (HPK.out _).mono ?_
    rintro e w1 ⟨rfl, rfl⟩
    go_wp2_with fail
    refine bodyPost_ret (v := .tuple #[.agg #[.int .i64 4, .int .i64 0, .string ⟨#[36]⟩], .int .i64 0]) (by simp [results, Tryz.results118, go_sem]) rfl ⟨by rw [← HR.out.1, ← HR.out.2.1, ← HR.out.2.2, HE.out.1, HE.out.2.1, HE.out.2.2]; rfl, ?_⟩
    (repeat (first | exact bref _ | refine bdr ?_ | refine bal ?_ _ | refine bset ?_ (by simp; done) _))
  ·have hd : mks.drop 8 = [43] :: mks.drop 9 := rfl
   rw [hd, List.find?_cons] at he
   cases hb : hasPrefix (byt s) [43]
   ·rw [hb] at he
    have HE := Lib.hid he
    have HPK : Hid (∀ W, Calls Tryz.prog 130 #[.string s, .string ⟨#[43]⟩] W fun e w' => e = .returned (.bool false) ∧ W = w') := Lib.hid (fun W => by
     have := HP.out ⟨#[43]⟩ W
     rw [show byt ⟨#[43]⟩ = [43] from rfl, hb] at this
     exact this)
    have ix : ∀ W, (Instr.index 161 (.agg #[.string ⟨#[123]⟩, .string ⟨#[125]⟩, .string ⟨#[40]⟩, .string ⟨#[41]⟩, .string ⟨#[44]⟩, .string ⟨#[59]⟩, .string ⟨#[58]⟩, .string ⟨#[36]⟩, .string ⟨#[43]⟩, .string ⟨#[45]⟩, .string ⟨#[42]⟩, .string ⟨#[47]⟩, .string ⟨#[61, 61]⟩, .string ⟨#[33, 61]⟩, .string ⟨#[60, 61]⟩, .string ⟨#[60]⟩]) (.int .i64 8)).run Tryz.prog W = .ok (.string ⟨#[43]⟩) W := fun W => idx_agg _ 8 _ W (by decide) rfl
    clear he hd hb
    go_wp2_with fail
    refine (HPK.out _).mono ?_
    rintro e w1 ⟨rfl, rfl⟩
    go_wp2_with fail
    go_round
    case rel => exact ⟨9, by omega, by go_num, HE.out⟩
    case measure => simp [RowKit.intOf]
   ·rw [hb] at he
    have HE := Lib.hid (mk_some HS.out he.symm)
    have HPK : Hid (∀ W, Calls Tryz.prog 130 #[.string s, .string ⟨#[43]⟩] W fun e w' => e = .returned (.bool true) ∧ W = w') := Lib.hid (fun W => by
     have := HP.out ⟨#[43]⟩ W
     rw [show byt ⟨#[43]⟩ = [43] from rfl, hb] at this
     exact this)
    have ix : ∀ W, (Instr.index 161 (.agg #[.string ⟨#[123]⟩, .string ⟨#[125]⟩, .string ⟨#[40]⟩, .string ⟨#[41]⟩, .string ⟨#[44]⟩, .string ⟨#[59]⟩, .string ⟨#[58]⟩, .string ⟨#[36]⟩, .string ⟨#[43]⟩, .string ⟨#[45]⟩, .string ⟨#[42]⟩, .string ⟨#[47]⟩, .string ⟨#[61, 61]⟩, .string ⟨#[33, 61]⟩, .string ⟨#[60, 61]⟩, .string ⟨#[60]⟩]) (.int .i64 8)).run Tryz.prog W = .ok (.string ⟨#[43]⟩) W := fun W => idx_agg _ 8 _ W (by decide) rfl
    clear he hd hb
    go_wp2_with fail
    refine (HPK.out _).mono ?_
    rintro e w1 ⟨rfl, rfl⟩
    go_wp2_with fail
    refine bodyPost_ret (v := .tuple #[.agg #[.int .i64 4, .int .i64 0, .string ⟨#[43]⟩], .int .i64 0]) (by simp [results, Tryz.results118, go_sem]) rfl ⟨by rw [← HR.out.1, ← HR.out.2.1, ← HR.out.2.2, HE.out.1, HE.out.2.1, HE.out.2.2]; rfl, ?_⟩
    (repeat (first | exact bref _ | refine bdr ?_ | refine bal ?_ _ | refine bset ?_ (by simp; done) _))
  ·have hd : mks.drop 9 = [45] :: mks.drop 10 := rfl
   rw [hd, List.find?_cons] at he
   cases hb : hasPrefix (byt s) [45]
   ·rw [hb] at he
    have HE := Lib.hid he
    have HPK : Hid (∀ W, Calls Tryz.prog 130 #[.string s, .string ⟨#[45]⟩] W fun e w' => e = .returned (.bool false) ∧ W = w') := Lib.hid (fun W => by
     have := HP.out ⟨#[45]⟩ W
     rw [show byt ⟨#[45]⟩ = [45] from rfl, hb] at this
     exact this)
    have ix : ∀ W, (Instr.index 161 (.agg #[.string ⟨#[123]⟩, .string ⟨#[125]⟩, .string ⟨#[40]⟩, .string ⟨#[41]⟩, .string ⟨#[44]⟩, .string ⟨#[59]⟩, .string ⟨#[58]⟩, .string ⟨#[36]⟩, .string ⟨#[43]⟩, .string ⟨#[45]⟩, .string ⟨#[42]⟩, .string ⟨#[47]⟩, .string ⟨#[61, 61]⟩, .string ⟨#[33, 61]⟩, .string ⟨#[60, 61]⟩, .string ⟨#[60]⟩]) (.int .i64 9)).run Tryz.prog W = .ok (.string ⟨#[45]⟩) W := fun W => idx_agg _ 9 _ W (by decide) rfl
    clear he hd hb
    go_wp2_with fail
    refine (HPK.out _).mono ?_
    rintro e w1 ⟨rfl, rfl⟩
    go_wp2_with fail
    go_round
    case rel => exact ⟨10, by omega, by go_num, HE.out⟩
    case measure => simp [RowKit.intOf]
   ·rw [hb] at he
    have HE := Lib.hid (mk_some HS.out he.symm)
    have HPK : Hid (∀ W, Calls Tryz.prog 130 #[.string s, .string ⟨#[45]⟩] W fun e w' => e = .returned (.bool true) ∧ W = w') := Lib.hid (fun W => by
     have := HP.out ⟨#[45]⟩ W
     rw [show byt ⟨#[45]⟩ = [45] from rfl, hb] at this
     exact this)
    have ix : ∀ W, (Instr.index 161 (.agg #[.string ⟨#[123]⟩, .string ⟨#[125]⟩, .string ⟨#[40]⟩, .string ⟨#[41]⟩, .string ⟨#[44]⟩, .string ⟨#[59]⟩, .string ⟨#[58]⟩, .string ⟨#[36]⟩, .string ⟨#[43]⟩, .string ⟨#[45]⟩, .string ⟨#[42]⟩, .string ⟨#[47]⟩, .string ⟨#[61, 61]⟩, .string ⟨#[33, 61]⟩, .string ⟨#[60, 61]⟩, .string ⟨#[60]⟩]) (.int .i64 9)).run Tryz.prog W = .ok (.string ⟨#[45]⟩) W := fun W => idx_agg _ 9 _ W (by decide) rfl
    clear he hd hb
    go_wp2_with fail
    refine (HPK.out _).mono ?_
    rintro e w1 ⟨rfl, rfl⟩
    go_wp2_with fail
    refine bodyPost_ret (v := .tuple #[.agg #[.int .i64 4, .int .i64 0, .string ⟨#[45]⟩], .int .i64 0]) (by simp [results, Tryz.results118, go_sem]) rfl ⟨by rw [← HR.out.1, ← HR.out.2.1, ← HR.out.2.2, HE.out.1, HE.out.2.1, HE.out.2.2]; rfl, ?_⟩
    (repeat (first | exact bref _ | refine bdr ?_ | refine bal ?_ _ | refine bset ?_ (by simp; done) _))
  ·have hd : mks.drop 10 = [42] :: mks.drop 11 := rfl
   rw [hd, List.find?_cons] at he
   cases hb : hasPrefix (byt s) [42]
   ·rw [hb] at he
    have HE := Lib.hid he
    have HPK : Hid (∀ W, Calls Tryz.prog 130 #[.string s, .string ⟨#[42]⟩] W fun e w' => e = .returned (.bool false) ∧ W = w') := Lib.hid (fun W => by
     have := HP.out ⟨#[42]⟩ W
     rw [show byt ⟨#[42]⟩ = [42] from rfl, hb] at this
     exact this)
    have ix : ∀ W, (Instr.index 161 (.agg #[.string ⟨#[123]⟩, .string ⟨#[125]⟩, .string ⟨#[40]⟩, .string ⟨#[41]⟩, .string ⟨#[44]⟩, .string ⟨#[59]⟩, .string ⟨#[58]⟩, .string ⟨#[36]⟩, .string ⟨#[43]⟩, .string ⟨#[45]⟩, .string ⟨#[42]⟩, .string ⟨#[47]⟩, .string ⟨#[61, 61]⟩, .string ⟨#[33, 61]⟩, .string ⟨#[60, 61]⟩, .string ⟨#[60]⟩]) (.int .i64 10)).run Tryz.prog W = .ok (.string ⟨#[42]⟩) W := fun W => idx_agg _ 10 _ W (by decide) rfl
    clear he hd hb
    go_wp2_with fail
    refine (HPK.out _).mono ?_
    rintro e w1 ⟨rfl, rfl⟩
    go_wp2_with fail
    go_round
    case rel => exact ⟨11, by omega, by go_num, HE.out⟩
    case measure => simp [RowKit.intOf]
   ·rw [hb] at he
    have HE := Lib.hid (mk_some HS.out he.symm)
    have HPK : Hid (∀ W, Calls Tryz.prog 130 #[.string s, .string ⟨#[42]⟩] W fun e w' => e = .returned (.bool true) ∧ W = w') := Lib.hid (fun W => by
     have := HP.out ⟨#[42]⟩ W
     rw [show byt ⟨#[42]⟩ = [42] from rfl, hb] at this
     exact this)
    have ix : ∀ W, (Instr.index 161 (.agg #[.string ⟨#[123]⟩, .string ⟨#[125]⟩, .string ⟨#[40]⟩, .string ⟨#[41]⟩, .string ⟨#[44]⟩, .string ⟨#[59]⟩, .string ⟨#[58]⟩, .string ⟨#[36]⟩, .string ⟨#[43]⟩, .string ⟨#[45]⟩, .string ⟨#[42]⟩, .string ⟨#[47]⟩, .string ⟨#[61, 61]⟩, .string ⟨#[33, 61]⟩, .string ⟨#[60, 61]⟩, .string ⟨#[60]⟩]) (.int .i64 10)).run Tryz.prog W = .ok (.string ⟨#[42]⟩) W := fun W => idx_agg _ 10 _ W (by decide) rfl
    clear he hd hb
    go_wp2_with fail
    refine (HPK.out _).mono ?_
    rintro e w1 ⟨rfl, rfl⟩
    go_wp2_with fail
    refine bodyPost_ret (v := .tuple #[.agg #[.int .i64 4, .int .i64 0, .string ⟨#[42]⟩], .int .i64 0]) (by simp [results, Tryz.results118, go_sem]) rfl ⟨by rw [← HR.out.1, ← HR.out.2.1, ← HR.out.2.2, HE.out.1, HE.out.2.1, HE.out.2.2]; rfl, ?_⟩
    (repeat (first | exact bref _ | refine bdr ?_ | refine bal ?_ _ | refine bset ?_ (by simp; done) _))
  ·have hd : mks.drop 11 = [47] :: mks.drop 12 := rfl
   rw [hd, List.find?_cons] at he
   cases hb : hasPrefix (byt s) [47]
   ·rw [hb] at he
    have HE := Lib.hid he
    have HPK : Hid (∀ W, Calls Tryz.prog 130 #[.string s, .string ⟨#[47]⟩] W fun e w' => e = .returned (.bool false) ∧ W = w') := Lib.hid (fun W => by
     have := HP.out ⟨#[47]⟩ W
     rw [show byt ⟨#[47]⟩ = [47] from rfl, hb] at this
     exact this)
    have ix : ∀ W, (Instr.index 161 (.agg #[.string ⟨#[123]⟩, .string ⟨#[125]⟩, .string ⟨#[40]⟩, .string ⟨#[41]⟩, .string ⟨#[44]⟩, .string ⟨#[59]⟩, .string ⟨#[58]⟩, .string ⟨#[36]⟩, .string ⟨#[43]⟩, .string ⟨#[45]⟩, .string ⟨#[42]⟩, .string ⟨#[47]⟩, .string ⟨#[61, 61]⟩, .string ⟨#[33, 61]⟩, .string ⟨#[60, 61]⟩, .string ⟨#[60]⟩]) (.int .i64 11)).run Tryz.prog W = .ok (.string ⟨#[47]⟩) W := fun W => idx_agg _ 11 _ W (by decide) rfl
    clear he hd hb
    go_wp2_with fail
    refine (HPK.out _).mono ?_
    rintro e w1 ⟨rfl, rfl⟩
    go_wp2_with fail
    go_round
    case rel => exact ⟨12, by omega, by go_num, HE.out⟩
    case measure => simp [RowKit.intOf]
   ·rw [hb] at he
    have HE := Lib.hid (mk_some HS.out he.symm)
    have HPK : Hid (∀ W, Calls Tryz.prog 130 #[.string s, .string ⟨#[47]⟩] W fun e w' => e = .returned (.bool true) ∧ W = w') := Lib.hid (fun W => by
     have := HP.out ⟨#[47]⟩ W
     rw [show byt ⟨#[47]⟩ = [47] from rfl, hb] at this
     exact this)
    have ix : ∀ W, (Instr.index 161 (.agg #[.string ⟨#[123]⟩, .string ⟨#[125]⟩, .string ⟨#[40]⟩, .string ⟨#[41]⟩, .string ⟨#[44]⟩, .string ⟨#[59]⟩, .string ⟨#[58]⟩, .string ⟨#[36]⟩, .string ⟨#[43]⟩, .string ⟨#[45]⟩, .string ⟨#[42]⟩, .string ⟨#[47]⟩, .string ⟨#[61, 61]⟩, .string ⟨#[33, 61]⟩, .string ⟨#[60, 61]⟩, .string ⟨#[60]⟩]) (.int .i64 11)).run Tryz.prog W = .ok (.string ⟨#[47]⟩) W := fun W => idx_agg _ 11 _ W (by decide) rfl
    clear he hd hb
    go_wp2_with fail
    refine (HPK.out _).mono ?_
    rintro e w1 ⟨rfl, rfl⟩
    go_wp2_with fail
    refine bodyPost_ret (v := .tuple #[.agg #[.int .i64 4, .int .i64 0, .string ⟨#[47]⟩], .int .i64 0]) (by simp [results, Tryz.results118, go_sem]) rfl ⟨by rw [← HR.out.1, ← HR.out.2.1, ← HR.out.2.2, HE.out.1, HE.out.2.1, HE.out.2.2]; rfl, ?_⟩
    (repeat (first | exact bref _ | refine bdr ?_ | refine bal ?_ _ | refine bset ?_ (by simp; done) _))
  ·have hd : mks.drop 12 = [61, 61] :: mks.drop 13 := rfl
   rw [hd, List.find?_cons] at he
   cases hb : hasPrefix (byt s) [61, 61]
   ·rw [hb] at he
    have HE := Lib.hid he
    have HPK : Hid (∀ W, Calls Tryz.prog 130 #[.string s, .string ⟨#[61, 61]⟩] W fun e w' => e = .returned (.bool false) ∧ W = w') := Lib.hid (fun W => by
     have := HP.out ⟨#[61, 61]⟩ W
     rw [show byt ⟨#[61, 61]⟩ = [61, 61] from rfl, hb] at this
     exact this)
    have ix : ∀ W, (Instr.index 161 (.agg #[.string ⟨#[123]⟩, .string ⟨#[125]⟩, .string ⟨#[40]⟩, .string ⟨#[41]⟩, .string ⟨#[44]⟩, .string ⟨#[59]⟩, .string ⟨#[58]⟩, .string ⟨#[36]⟩, .string ⟨#[43]⟩, .string ⟨#[45]⟩, .string ⟨#[42]⟩, .string ⟨#[47]⟩, .string ⟨#[61, 61]⟩, .string ⟨#[33, 61]⟩, .string ⟨#[60, 61]⟩, .string ⟨#[60]⟩]) (.int .i64 12)).run Tryz.prog W = .ok (.string ⟨#[61, 61]⟩) W := fun W => idx_agg _ 12 _ W (by decide) rfl
    clear he hd hb
    go_wp2_with fail
    refine (HPK.out _).mono ?_
    rintro e w1 ⟨rfl, rfl⟩
    go_wp2_with fail
    go_round
    case rel => exact ⟨13, by omega, by go_num, HE.out⟩
    case measure => simp [RowKit.intOf]
   ·rw [hb] at he
    have HE := Lib.hid (mk_some HS.out he.symm)
    have HPK : Hid (∀ W, Calls Tryz.prog 130 #[.string s, .string ⟨#[61, 61]⟩] W fun e w' => e = .returned (.bool true) ∧ W = w') := Lib.hid (fun W => by
     have := HP.out ⟨#[61, 61]⟩ W
     rw [show byt ⟨#[61, 61]⟩ = [61, 61] from rfl, hb] at this
     exact this)
    have ix : ∀ W, (Instr.index 161 (.agg #[.string ⟨#[123]⟩, .string ⟨#[125]⟩, .string ⟨#[40]⟩, .string ⟨#[41]⟩, .string ⟨#[44]⟩, .string ⟨#[59]⟩, .string ⟨#[58]⟩, .string ⟨#[36]⟩, .string ⟨#[43]⟩, .string ⟨#[45]⟩, .string ⟨#[42]⟩, .string ⟨#[47]⟩, .string ⟨#[61, 61]⟩, .string ⟨#[33, 61]⟩, .string ⟨#[60, 61]⟩, .string ⟨#[60]⟩]) (.int .i64 12)).run Tryz.prog W = .ok (.string ⟨#[61, 61]⟩) W := fun W => idx_agg _ 12 _ W (by decide) rfl
    clear he hd hb
    go_wp2_with fail
    refine (HPK.out _).mono ?_
    rintro e w1 ⟨rfl, rfl⟩
    go_wp2_with fail
    refine bodyPost_ret (v := .tuple #[.agg #[.int .i64 4, .int .i64 0, .string ⟨#[61, 61]⟩], .int .i64 0]) (by simp [results, Tryz.results118, go_sem]) rfl ⟨by rw [← HR.out.1, ← HR.out.2.1, ← HR.out.2.2, HE.out.1, HE.out.2.1, HE.out.2.2]; rfl, ?_⟩
    (repeat (first | exact bref _ | refine bdr ?_ | refine bal ?_ _ | refine bset ?_ (by simp; done) _))
  ·have hd : mks.drop 13 = [33, 61] :: mks.drop 14 := rfl
   rw [hd, List.find?_cons] at he
   cases hb : hasPrefix (byt s) [33, 61]
   ·rw [hb] at he
    have HE := Lib.hid he
    have HPK : Hid (∀ W, Calls Tryz.prog 130 #[.string s, .string ⟨#[33, 61]⟩] W fun e w' => e = .returned (.bool false) ∧ W = w') := Lib.hid (fun W => by
     have := HP.out ⟨#[33, 61]⟩ W
     rw [show byt ⟨#[33, 61]⟩ = [33, 61] from rfl, hb] at this
     exact this)
    have ix : ∀ W, (Instr.index 161 (.agg #[.string ⟨#[123]⟩, .string ⟨#[125]⟩, .string ⟨#[40]⟩, .string ⟨#[41]⟩, .string ⟨#[44]⟩, .string ⟨#[59]⟩, .string ⟨#[58]⟩, .string ⟨#[36]⟩, .string ⟨#[43]⟩, .string ⟨#[45]⟩, .string ⟨#[42]⟩, .string ⟨#[47]⟩, .string ⟨#[61, 61]⟩, .string ⟨#[33, 61]⟩, .string ⟨#[60, 61]⟩, .string ⟨#[60]⟩]) (.int .i64 13)).run Tryz.prog W = .ok (.string ⟨#[33, 61]⟩) W := fun W => idx_agg _ 13 _ W (by decide) rfl
    clear he hd hb
    go_wp2_with fail
    refine (HPK.out _).mono ?_
    rintro e w1 ⟨rfl, rfl⟩
    go_wp2_with fail
    go_round
    case rel => exact ⟨14, by omega, by go_num, HE.out⟩
    case measure => simp [RowKit.intOf]
   ·rw [hb] at he
    have HE := Lib.hid (mk_some HS.out he.symm)
    have HPK : Hid (∀ W, Calls Tryz.prog 130 #[.string s, .string ⟨#[33, 61]⟩] W fun e w' => e = .returned (.bool true) ∧ W = w') := Lib.hid (fun W => by
     have := HP.out ⟨#[33, 61]⟩ W
     rw [show byt ⟨#[33, 61]⟩ = [33, 61] from rfl, hb] at this
     exact this)
    have ix : ∀ W, (Instr.index 161 (.agg #[.string ⟨#[123]⟩, .string ⟨#[125]⟩, .string ⟨#[40]⟩, .string ⟨#[41]⟩, .string ⟨#[44]⟩, .string ⟨#[59]⟩, .string ⟨#[58]⟩, .string ⟨#[36]⟩, .string ⟨#[43]⟩, .string ⟨#[45]⟩, .string ⟨#[42]⟩, .string ⟨#[47]⟩, .string ⟨#[61, 61]⟩, .string ⟨#[33, 61]⟩, .string ⟨#[60, 61]⟩, .string ⟨#[60]⟩]) (.int .i64 13)).run Tryz.prog W = .ok (.string ⟨#[33, 61]⟩) W := fun W => idx_agg _ 13 _ W (by decide) rfl
    clear he hd hb
    go_wp2_with fail
    refine (HPK.out _).mono ?_
    rintro e w1 ⟨rfl, rfl⟩
    go_wp2_with fail
    refine bodyPost_ret (v := .tuple #[.agg #[.int .i64 4, .int .i64 0, .string ⟨#[33, 61]⟩], .int .i64 0]) (by simp [results, Tryz.results118, go_sem]) rfl ⟨by rw [← HR.out.1, ← HR.out.2.1, ← HR.out.2.2, HE.out.1, HE.out.2.1, HE.out.2.2]; rfl, ?_⟩
    (repeat (first | exact bref _ | refine bdr ?_ | refine bal ?_ _ | refine bset ?_ (by simp; done) _))
  ·have hd : mks.drop 14 = [60, 61] :: mks.drop 15 := rfl
   rw [hd, List.find?_cons] at he
   cases hb : hasPrefix (byt s) [60, 61]
   ·rw [hb] at he
    have HE := Lib.hid he
    have HPK : Hid (∀ W, Calls Tryz.prog 130 #[.string s, .string ⟨#[60, 61]⟩] W fun e w' => e = .returned (.bool false) ∧ W = w') := Lib.hid (fun W => by
     have := HP.out ⟨#[60, 61]⟩ W
     rw [show byt ⟨#[60, 61]⟩ = [60, 61] from rfl, hb] at this
     exact this)
    have ix : ∀ W, (Instr.index 161 (.agg #[.string ⟨#[123]⟩, .string ⟨#[125]⟩, .string ⟨#[40]⟩, .string ⟨#[41]⟩, .string ⟨#[44]⟩, .string ⟨#[59]⟩, .string ⟨#[58]⟩, .string ⟨#[36]⟩, .string ⟨#[43]⟩, .string ⟨#[45]⟩, .string ⟨#[42]⟩, .string ⟨#[47]⟩, .string ⟨#[61, 61]⟩, .string ⟨#[33, 61]⟩, .string ⟨#[60, 61]⟩, .string ⟨#[60]⟩]) (.int .i64 14)).run Tryz.prog W = .ok (.string ⟨#[60, 61]⟩) W := fun W => idx_agg _ 14 _ W (by decide) rfl
    clear he hd hb
    go_wp2_with fail
    refine (HPK.out _).mono ?_
    rintro e w1 ⟨rfl, rfl⟩
    go_wp2_with fail
    go_round
    case rel => exact ⟨15, by omega, by go_num, HE.out⟩
    case measure => simp [RowKit.intOf]
   ·rw [hb] at he
    have HE := Lib.hid (mk_some HS.out he.symm)
    have HPK : Hid (∀ W, Calls Tryz.prog 130 #[.string s, .string ⟨#[60, 61]⟩] W fun e w' => e = .returned (.bool true) ∧ W = w') := Lib.hid (fun W => by
     have := HP.out ⟨#[60, 61]⟩ W
     rw [show byt ⟨#[60, 61]⟩ = [60, 61] from rfl, hb] at this
     exact this)
    have ix : ∀ W, (Instr.index 161 (.agg #[.string ⟨#[123]⟩, .string ⟨#[125]⟩, .string ⟨#[40]⟩, .string ⟨#[41]⟩, .string ⟨#[44]⟩, .string ⟨#[59]⟩, .string ⟨#[58]⟩, .string ⟨#[36]⟩, .string ⟨#[43]⟩, .string ⟨#[45]⟩, .string ⟨#[42]⟩, .string ⟨#[47]⟩, .string ⟨#[61, 61]⟩, .string ⟨#[33, 61]⟩, .string ⟨#[60, 61]⟩, .string ⟨#[60]⟩]) (.int .i64 14)).run Tryz.prog W = .ok (.string ⟨#[60, 61]⟩) W := fun W => idx_agg _ 14 _ W (by decide) rfl
    clear he hd hb
    go_wp2_with fail
    refine (HPK.out _).mono ?_
    rintro e w1 ⟨rfl, rfl⟩
    go_wp2_with fail
    refine bodyPost_ret (v := .tuple #[.agg #[.int .i64 4, .int .i64 0, .string ⟨#[60, 61]⟩], .int .i64 0]) (by simp [results, Tryz.results118, go_sem]) rfl ⟨by rw [← HR.out.1, ← HR.out.2.1, ← HR.out.2.2, HE.out.1, HE.out.2.1, HE.out.2.2]; rfl, ?_⟩
    (repeat (first | exact bref _ | refine bdr ?_ | refine bal ?_ _ | refine bset ?_ (by simp; done) _))
  ·have hd : mks.drop 15 = [60] :: mks.drop 16 := rfl
   rw [hd, List.find?_cons] at he
   cases hb : hasPrefix (byt s) [60]
   ·rw [hb] at he
    have HE := Lib.hid he
    have HPK : Hid (∀ W, Calls Tryz.prog 130 #[.string s, .string ⟨#[60]⟩] W fun e w' => e = .returned (.bool false) ∧ W = w') := Lib.hid (fun W => by
     have := HP.out ⟨#[60]⟩ W
     rw [show byt ⟨#[60]⟩ = [60] from rfl, hb] at this
     exact this)
    have ix : ∀ W, (Instr.index 161 (.agg #[.string ⟨#[123]⟩, .string ⟨#[125]⟩, .string ⟨#[40]⟩, .string ⟨#[41]⟩, .string ⟨#[44]⟩, .string ⟨#[59]⟩, .string ⟨#[58]⟩, .string ⟨#[36]⟩, .string ⟨#[43]⟩, .string ⟨#[45]⟩, .string ⟨#[42]⟩, .string ⟨#[47]⟩, .string ⟨#[61, 61]⟩, .string ⟨#[33, 61]⟩, .string ⟨#[60, 61]⟩, .string ⟨#[60]⟩]) (.int .i64 15)).run Tryz.prog W = .ok (.string ⟨#[60]⟩) W := fun W => idx_agg _ 15 _ W (by decide) rfl
    clear he hd hb
    go_wp2_with fail
    refine (HPK.out _).mono ?_
    rintro e w1 ⟨rfl, rfl⟩
    go_wp2_with fail
    go_round
    case rel => exact ⟨16, by omega, by go_num, HE.out⟩
    case measure => simp [RowKit.intOf]
   ·rw [hb] at he
    have HE := Lib.hid (mk_some HS.out he.symm)
    have HPK : Hid (∀ W, Calls Tryz.prog 130 #[.string s, .string ⟨#[60]⟩] W fun e w' => e = .returned (.bool true) ∧ W = w') := Lib.hid (fun W => by
     have := HP.out ⟨#[60]⟩ W
     rw [show byt ⟨#[60]⟩ = [60] from rfl, hb] at this
     exact this)
    have ix : ∀ W, (Instr.index 161 (.agg #[.string ⟨#[123]⟩, .string ⟨#[125]⟩, .string ⟨#[40]⟩, .string ⟨#[41]⟩, .string ⟨#[44]⟩, .string ⟨#[59]⟩, .string ⟨#[58]⟩, .string ⟨#[36]⟩, .string ⟨#[43]⟩, .string ⟨#[45]⟩, .string ⟨#[42]⟩, .string ⟨#[47]⟩, .string ⟨#[61, 61]⟩, .string ⟨#[33, 61]⟩, .string ⟨#[60, 61]⟩, .string ⟨#[60]⟩]) (.int .i64 15)).run Tryz.prog W = .ok (.string ⟨#[60]⟩) W := fun W => idx_agg _ 15 _ W (by decide) rfl
    clear he hd hb
    go_wp2_with fail
    refine (HPK.out _).mono ?_
    rintro e w1 ⟨rfl, rfl⟩
    go_wp2_with fail
    refine bodyPost_ret (v := .tuple #[.agg #[.int .i64 4, .int .i64 0, .string ⟨#[60]⟩], .int .i64 0]) (by simp [results, Tryz.results118, go_sem]) rfl ⟨by rw [← HR.out.1, ← HR.out.2.1, ← HR.out.2.2, HE.out.1, HE.out.2.1, HE.out.2.2]; rfl, ?_⟩
    (repeat (first | exact bref _ | refine bdr ?_ | refine bal ?_ _ | refine bset ?_ (by simp; done) _))
  ·have HE := Lib.hid (mk_none HS.out he.symm)
   clear he
   go_wp2_with fail
   refine bodyPost_ret (v := .tuple #[.agg #[.int .i64 0, .int .i64 0, .string ⟨#[]⟩], .int .i64 2]) (by simp [results, Tryz.results118, go_sem]) rfl ⟨by rw [← HR.out.1, ← HR.out.2.1, ← HR.out.2.2, HE.out.1, HE.out.2.1, HE.out.2.2]; rfl, ?_⟩
   (repeat (first | exact bref _ | refine bdr ?_ | refine bal ?_ _ | refine bset ?_ (by simp; done) _))
end Go.Proofs.YthanoilbcdhbkaaGreatDoor
