/-
  Merged: Tokens: a builder's writing, its length and its text, with all other blocks kept. A builder's WriteByte, with all other blocks kept. Validate, Depth, a line, Print of the program. Print of the program.
-/
import Derived.Test.YthanoilbcdhbkaaGreatDoorQTA
import Derived.Shelf.Strings.BuilderK
import Derived.Test.YthanoilbcdhbkaaGreatDoorQK
import Derived.Lib.AppendIntMem
import Derived.Lib.LaidTab
namespace Go.Proofs.YthanoilbcdhbkaaGreatDoor
open Go Go.RowKit Go.Lib WM TM

def IsB (B : Nat) (out : List UInt8) (w : World) : Prop := Lib.IsBuilderF 63 5 B B (Lib.byteCells out) w
theorem IsB.lt {B : Nat} {out : List UInt8} {w : World} (h : IsB B out w) : B < w.heap.size := by
 rcases h with h | h
 ·exact h.lt
 ·exact h.lt
theorem IsB.keep {B : Nat} {out : List UInt8} {w w' : World} (h : IsB B out w) (hb : Below w.heap.size w w') : IsB B out w' := by
 have key : ∀ p, Lib.BuilderAtF 63 5 B B p (Lib.byteCells out) w → Lib.BuilderAtF 63 5 B B p (Lib.byteCells out) w' := by
  rintro p ⟨h1, v, h2, h3, h4⟩
  refine ⟨h1, v, ?_, ⟨h3.1, ?_⟩, h4⟩
  ·rw [hb.block B (Array.getElem?_eq_some_iff.1 h2).1]; exact h2
  ·rcases h3.2 with hn | ⟨g, cap, cur, fz, rfl, hbg, hg, rest⟩
   ·exact Or.inl hn
   ·refine Or.inr ⟨g, cap, cur, fz, rfl, hbg, ?_, rest⟩
    rw [hb.block g (Array.getElem?_eq_some_iff.1 hg).1]
    exact hg
 exact h.elim (fun x => .inl (key _ x)) (fun x => .inr (key _ x))
theorem IsB.new (w : World) : IsB w.heap.size [] (w.alloc (.cells #[.pointer none, .slice none 0 0] 63)) :=
 Lib.IsBuilderF.of (Lib.fresh_isBuilder 63 5 w)
theorem bwrite (B : Nat) (out : List UInt8) (s : ByteArray) (w : World) (h : IsB B out w) (hlen : out.length + s.size ≤ 140737488355328) :
  Calls Tryz.prog 36 #[.pointer (some ⟨B, 0, none⟩), .string s] w fun e w' => e = .returned (.tuple #[.int .i64 s.size, .nilIface]) ∧ IsB B (out ++ byt s) w' ∧ Below B w w' ∧ Lib.OthersKept 5 (some B) w w' := by
 have hl : (Lib.byteCells out).length = out.length := Lib.byteCells_length _
 refine (Any.Builder_WriteString_k (ρ := Tryz.lays105_ren) { Tryz.lays105 with } Tryz.Builder_Extra_105 B B (Lib.byteCells out) s w h (by rw [hl]; exact hlen) (Nat.le_of_lt h.lt)).mono fun e w' ⟨he, h1, h2, h3⟩ => ⟨he, ?_, h2, h3⟩
 have e1 : Lib.byteCells out ++ Lib.strCells s = Lib.byteCells (out ++ byt s) := by rw [Lib.byteCells_append, Lib.strCells_eq]; rfl
 rw [e1] at h1
 exact .inr h1
theorem bstring (B : Nat) (out : List UInt8) (w : World) (h : IsB B out w) :
  Calls Tryz.prog 39 #[.pointer (some ⟨B, 0, none⟩)] w fun e w' => e = .returned (.string (str out)) ∧ Below B w w' := by
 refine (Tryz.Builder_String_any_k B B out w h (Nat.le_of_lt h.lt)).mono fun e w' ⟨he, _, hw, _⟩ => ⟨he, hw⟩
def BoxT (W : World) (b : Nat) (k ln : Int) (X : ByteArray) : Prop := W.heap[b]? = some (.cells #[.int .i64 k, .int .i64 ln, .string X] 128 (0, 0))
theorem BoxT.new (W : World) (k ln : Int) (X : ByteArray) : BoxT (W.alloc (.cells #[.int .i64 k, .int .i64 ln, .string X] 128)) W.heap.size k ln X := heap_alloc_new W _
theorem BoxT.cells {W : World} {b : Nat} {k ln : Int} {X : ByteArray} (h : BoxT W b k ln X) : W.cell? ⟨b, 0, none⟩ = some (.int .i64 k) ∧ W.cell? ⟨b, 1, none⟩ = some (.int .i64 ln) ∧ W.cell? ⟨b, 2, none⟩ = some (.string X) := by
 refine ⟨?_, ?_, ?_⟩
 ·rw [cell_of_row _ _ 0 _ _ (0, 0) h]; rfl
 ·rw [cell_of_row _ _ 1 _ _ (0, 0) h]; rfl
 ·rw [cell_of_row _ _ 2 _ _ (0, 0) h]; rfl
theorem BoxT.lt {W : World} {b : Nat} {k ln : Int} {X : ByteArray} (h : BoxT W b k ln X) : b < W.heap.size := (Array.getElem?_eq_some_iff.1 h).1
theorem BoxT.keep {W W' : World} {b : Nat} {k ln : Int} {X : ByteArray} (h : BoxT W b k ln X) (hb : Below W.heap.size W W') : BoxT W' b k ln X := by
 unfold BoxT at *
 rw [hb.block b (Array.getElem?_eq_some_iff.1 h).1]; exact h
end Go.Proofs.YthanoilbcdhbkaaGreatDoor

namespace Go.Proofs.YthanoilbcdhbkaaGreatDoor
open Go Go.RowKit Go.Lib Go.Shelf WM TM
def rK : Go.Shelf.Ren := ⟨fun n => if n = 167 then 38 else Tryz.lays105_ren.f n, Tryz.lays105_ren.t, Tryz.lays105_ren.g⟩
theorem laysK : Go.Proofs.Lays.n167 Tryz.prog rK := { Tryz.lays105 with f167 := by kernel_rfl }
set_option maxRecDepth 100000 in
theorem extraK : Builder.Extra Tryz.prog rK := { Tryz.Builder_Extra_105 with }
theorem bbyte (B : Nat) (out : List UInt8) (c : UInt8) (z : Int) (hz : z = (c.toNat : Int)) (w : World) (h : IsB B out w) (hlen : out.length + 1 ≤ 140737488355328) :
  Calls Tryz.prog 38 #[.pointer (some ⟨B, 0, none⟩), .int .u8 z] w fun e w' => e = .returned .nilIface ∧ IsB B (out ++ [c]) w' ∧ Below B w w' ∧ Lib.OthersKept 5 (some B) w w' := by
 have hl : (Lib.byteCells out).length = out.length := Lib.byteCells_length _
 refine (Any.Builder_WriteByte_k (ρ := rK) laysK extraK B B (Lib.byteCells out) z w h (by rw [hl]; exact hlen) (Nat.le_of_lt h.lt)).mono fun e w' ⟨he, h1, h2, h3⟩ => ⟨he, ?_, h2, h3⟩
 have e1 : Lib.byteCells out ++ [.int .u8 z] = Lib.byteCells (out ++ [c]) := by rw [Lib.byteCells_append, hz]; rfl
 rw [e1] at h1
 exact .inr h1
end Go.Proofs.YthanoilbcdhbkaaGreatDoor

namespace Go.Proofs.YthanoilbcdhbkaaGreatDoor
open Go Go.RowKit Go.Lib Go.Shelf WM TM EM YM

def kns : List (List UInt8) := [[], [110, 117, 109, 98, 101, 114], [97, 109, 111, 117, 110, 116], [114, 97, 116, 101]]
def ons : List (List UInt8) := [[], [], [], [], [], [97, 100, 100], [115, 117, 98], [109, 117, 108], [100, 105, 118], [110, 101, 103], [101, 113], [110, 101], [108, 116], [108, 101], [97, 110, 100], [111, 114], [110, 111, 116], [109, 105, 110], [109, 97, 120]]
def Kn (w : World) : Prop := 0 < w.heap.size ∧ ∀ i, i < 4 → w.cell? ⟨0, i, none⟩ = some (.string (str (kns.getD i [])))
def On (w : World) : Prop := 1 < w.heap.size ∧ ∀ i, i < 19 → w.cell? ⟨1, i, none⟩ = some (.string (str (ons.getD i [])))
def Tk (w : World) : Prop := Lib.TabIs Tryz.prog w "internal/strconv.uint64pow10" .u64 Lib.pow10Tab
theorem Kn.keep {w w' : World} (h : Kn w) (hb : Below w.heap.size w w') : Kn w' := ⟨Nat.lt_of_lt_of_le h.1 hb.size, fun i hi => keepc hb (h.2 i hi)⟩
theorem On.keep {w w' : World} (h : On w) (hb : Below w.heap.size w w') : On w' := ⟨Nat.lt_of_lt_of_le h.1 hb.size, fun i hi => keepc hb (h.2 i hi)⟩
theorem Tk.keep {w w' : World} (h : Tk w) (hb : Below w.heap.size w w') : Tk w' := Lib.tabBelow_of_tabIs h w' hb
def Gk (w : World) : Prop := Ge w ∧ Tk w ∧ Kn w ∧ On w
theorem Gk.keep {w w' : World} (h : Gk w) (hb : Below w.heap.size w w') : Gk w' := ⟨h.1.keep hb, h.2.1.keep hb, h.2.2.1.keep hb, h.2.2.2.keep hb⟩
theorem kitoa (n : Int) (h0 : 0 ≤ n) (h1 : n ≤ 9223372036854775807) (w : World) (hT : Tk w) :
  Calls Tryz.prog 66 #[.int .i64 n] w fun e w' => e = .returned (.string (str (itoa n))) ∧ Below w.heap.size w w' := by
 refine (Tryz.strconv_Itoa n (by omega) h1 w hT).mono fun e w' ⟨he, k', os, hw⟩ => ⟨he, by rw [hw]; exact Lib.below_grow w.heap.size w (Nat.le_refl _) k' os⟩
def lnT (vs : List Vr) (x : Ins) : List UInt8 :=
 if x.1 = 1 then [112, 117, 115, 104, 32] ++ tyW x.2.1 ++ [32] ++ itoa x.2.2
 else if x.1 = 2 then [108, 111, 97, 100, 32] ++ (vs.getD x.2.1.toNat ([], 0)).1
 else if x.1 = 3 then opWs.getD (x.2.1 - 5).toNat []
 else if x.1 = 4 then [106, 117, 109, 112, 32] ++ itoa x.2.1
 else [102, 97, 108, 115, 101, 32] ++ itoa x.2.1
theorem insT_ln {vs : List Vr} {n i : Nat} {x : Ins} (h : YM.Form vs n i x) : insT vs x = lnT vs x ++ [10] := by
 unfold insT lnT
 by_cases h1 : x.1 = 1
 ·simp only [if_pos h1]
 ·by_cases h2 : x.1 = 2
  ·simp only [if_neg h1, if_pos h2]
  ·by_cases h3 : x.1 = 3
   ·simp only [if_neg h1, if_neg h2, if_pos h3]
   ·by_cases h4 : x.1 = 4
    ·simp only [if_neg h1, if_neg h2, if_neg h3, if_pos h4]
    ·have h5 : x.1 = 5 := by unfold YM.Form at h; omega
     simp only [if_neg h1, if_neg h2, if_neg h3, if_neg h4, if_pos h5]
theorem itoa_few (n : Int) (h0 : 0 ≤ n) (h1 : n ≤ 9223372036854775807) : (itoa n).length ≤ 20 := by
 unfold itoa
 rw [if_neg (by omega), decDigits_length]
 exact nDigits_20 _ (by omega)
theorem name_few {vs : List Vr} (h : vsE vs = 0) (k : Nat) : (vs.getD k ([], 0)).1.length ≤ 16 := by
 by_cases hk : k < vs.length
 ·have h2 := ((vsE_zero vs).1 h).2.1 (vs.getD k ([], 0)) (getD_mem'' _ _ _ hk)
  have h3 := h2.1
  unfold varOk nmOk at h3
  simp only [Bool.and_eq_true, decide_eq_true_eq] at h3
  exact h3.1.1.2
 ·rw [List.getD_eq_getElem?_getD, List.getElem?_eq_none (by omega)]; simp
theorem lnT_few {vs : List Vr} {n i : Nat} {x : Ins} (hv : vsE vs = 0) (h : YM.Form vs n i x) (hN : x.2.2 ≤ 9223372036854775807) (hn : n ≤ 1000) : (lnT vs x).length ≤ 100 := by
 unfold lnT
 unfold YM.Form at h
 have e1 : (tyW x.2.1).length ≤ 6 := by unfold tyW; (repeat' split) <;> simp
 have e2 := name_few hv x.2.1.toNat
 have e3 : (opWs.getD (x.2.1 - 5).toNat []).length ≤ 3 := by
  by_cases hk : (x.2.1 - 5).toNat < 14
  ·have : ∀ k, k < 14 → (opWs.getD k []).length ≤ 3 := by decide
   exact this _ hk
  ·rw [List.getD_eq_getElem?_getD, List.getElem?_eq_none (by show 14 ≤ _; omega)]; simp
 by_cases h1 : x.1 = 1
 ·rw [if_pos h1]
  have e4 := itoa_few x.2.2 (by omega) hN
  simp only [List.length_append, List.length_cons, List.length_nil]
  omega
 ·rw [if_neg h1]
  by_cases h2 : x.1 = 2
  ·rw [if_pos h2]
   simp only [List.length_append, List.length_cons, List.length_nil]
   omega
  ·rw [if_neg h2]
   by_cases h3 : x.1 = 3
   ·rw [if_pos h3]; omega
   ·rw [if_neg h3]
    have e4 := itoa_few x.2.1 (by omega) (by omega)
    by_cases h4 : x.1 = 4
    ·rw [if_pos h4]
     simp only [List.length_append, List.length_cons, List.length_nil]
     omega
    ·rw [if_neg h4]
     simp only [List.length_append, List.length_cons, List.length_nil]
     omega

set_option maxRecDepth 100000 in
theorem mValidate (cd : Cd) (vo io : Option Addr) (vc ic : Nat) (w : World) (hG : Ge w) (h : CodeAt cd vo vc io ic w) (hfit : Fits cd.c) :
  Calls Tryz.prog 16 #[.agg #[.int .i64 cd.t, .slice vo cd.vs.length vc, .slice io cd.c.length ic]] w fun r w' => r = .returned (.int .i64 (runC cd.t cd.vs cd.c).2) ∧ Below w.heap.size w w' := by
 have C := Lib.hid (fun W (hW : Below w.heap.size w W) => mexamine cd vo io vc ic W (hG.keep hW) (h.keep hW) hfit)
 obtain ⟨q1, hq1⟩ : ∃ q, (runC cd.t cd.vs cd.c).1 = q := ⟨_, rfl⟩
 obtain ⟨q2, hq2⟩ : ∃ q, (runC cd.t cd.vs cd.c).2 = q := ⟨_, rfl⟩
 rw [hq1, hq2] at C
 first | rw [hq1] | rw [hq2]
 obtain ⟨t, ht⟩ : ∃ t, cd.t = t := ⟨_, rfl⟩
 obtain ⟨vn, hvn⟩ : ∃ n, cd.vs.length = n := ⟨_, rfl⟩
 obtain ⟨n, hn⟩ : ∃ n, cd.c.length = n := ⟨_, rfl⟩
 rw [ht, hvn, hn] at C ⊢
 have HB0 := Lib.hid (show Below w.heap.size w (w.alloc (.cells #[.int .i64 t, .slice vo vn vc, .slice io n ic] 30)) from bal (bref w) _)
 clear h hfit hG hq1 hq2 ht hvn hn
 go_enter Tryz.func16, Tryz.ntmps16
 go_wp2_with fail
 refine (C.out _ HB0.out).mono ?_
 rintro r w1 ⟨rfl, hb1⟩
 have HB1 := Lib.hid (btr HB0.out hb1)
 clear hb1
 go_wp2_with fail
 go_ret
 exact ⟨rfl, HB1.out⟩
set_option maxRecDepth 100000 in
theorem mDepth (cd : Cd) (vo io : Option Addr) (vc ic : Nat) (w : World) (hG : Ge w) (h : CodeAt cd vo vc io ic w) (hfit : Fits cd.c) :
  Calls Tryz.prog 18 #[.agg #[.int .i64 cd.t, .slice vo cd.vs.length vc, .slice io cd.c.length ic]] w fun r w' => r = .returned (.int .i64 (runC cd.t cd.vs cd.c).1) ∧ Below w.heap.size w w' := by
 have C := Lib.hid (fun W (hW : Below w.heap.size w W) => mexamine cd vo io vc ic W (hG.keep hW) (h.keep hW) hfit)
 obtain ⟨q1, hq1⟩ : ∃ q, (runC cd.t cd.vs cd.c).1 = q := ⟨_, rfl⟩
 obtain ⟨q2, hq2⟩ : ∃ q, (runC cd.t cd.vs cd.c).2 = q := ⟨_, rfl⟩
 rw [hq1, hq2] at C
 first | rw [hq1] | rw [hq2]
 obtain ⟨t, ht⟩ : ∃ t, cd.t = t := ⟨_, rfl⟩
 obtain ⟨vn, hvn⟩ : ∃ n, cd.vs.length = n := ⟨_, rfl⟩
 obtain ⟨n, hn⟩ : ∃ n, cd.c.length = n := ⟨_, rfl⟩
 rw [ht, hvn, hn] at C ⊢
 have HB0 := Lib.hid (show Below w.heap.size w (w.alloc (.cells #[.int .i64 t, .slice vo vn vc, .slice io n ic] 30)) from bal (bref w) _)
 clear h hfit hG hq1 hq2 ht hvn hn
 go_enter Tryz.func18, Tryz.ntmps18
 go_wp2_with fail
 refine (C.out _ HB0.out).mono ?_
 rintro r w1 ⟨rfl, hb1⟩
 have HB1 := Lib.hid (btr HB0.out hb1)
 clear hb1
 go_wp2_with fail
 go_ret
 exact ⟨rfl, HB1.out⟩
set_option maxRecDepth 100000 in
set_option maxHeartbeats 4000000 in
theorem mline (vs : List Vr) (vo : Option Addr) (vc n i : Nat) (x : Ins) (w : World) (hG : Gk w) (hv : VarsAt vo vs w) (hf : YM.Form vs n i x) (hN : x.2.2 ≤ 9223372036854775807) (hn : n ≤ 1000) (h16 : ∀ k, (vs.getD k ([], 0)).1.length ≤ 16) :
  Calls Tryz.prog 37 #[.agg #[.int .i64 x.1, .int .i64 x.2.1, .int .i64 x.2.2], .slice vo vs.length vc] w fun r w' => r = .returned (.string (str (lnT vs x))) ∧ Below w.heap.size w w' := by
 obtain ⟨o, a, z⟩ := x
 simp only at hN ⊢
 unfold YM.Form at hf
 simp only at hf
 obtain ⟨vn, hvn⟩ : ∃ n, vs.length = n := ⟨_, rfl⟩
 have HB1 := Lib.hid (show Below w.heap.size w (w.alloc (.cells #[.int .i64 o, .int .i64 a, .int .i64 z] 47)) from bal (bref w) _)
 by_cases h1 : o = 1
 ·subst h1
  obtain ⟨k, rfl⟩ : ∃ k : Nat, a = (k : Int) := ⟨a.toNat, by omega⟩
  have hk : 1 ≤ k ∧ k ≤ 3 ∧ 0 ≤ z := by omega
  have hT : tyW (k : Int) = kns.getD k [] := by
   obtain ⟨k1, k2, _⟩ := hk
   have : k = 1 ∨ k = 2 ∨ k = 3 := by omega
   rcases this with rfl | rfl | rfl <;> rfl
  have hL : lnT vs (1, (k : Int), z) = [112, 117, 115, 104, 32] ++ kns.getD k [] ++ [32] ++ itoa z := by unfold lnT; simp [hT]
  rw [hL, hvn]
  have IT := Lib.hid (fun W (hW : Below w.heap.size w W) => kitoa z hk.2.2 hN W (hG.2.1.keep hW))
  have kc := keepc HB1.out (hG.2.2.1.2 k (by omega))
  obtain ⟨K, hK⟩ : ∃ K, str (kns.getD k []) = K := ⟨_, rfl⟩
  obtain ⟨Z, hZ⟩ : ∃ Z, str (itoa z) = Z := ⟨_, rfl⟩
  have HR := Lib.hid (show str ([112, 117, 115, 104, 32] ++ kns.getD k [] ++ [32] ++ itoa z) = ((⟨#[112, 117, 115, 104, 32]⟩ ++ K) ++ ⟨#[32]⟩) ++ Z by rw [← hK, ← hZ, ← str_app, ← str_app, ← str_app]; rfl)
  have hKs : K.size ≤ 10 := by
   rw [← hK, str_size, ← hT]
   unfold tyW
   (repeat' split) <;> simp
  have hZs : Z.size ≤ 20 := by rw [← hZ, str_size]; exact itoa_few z hk.2.2 hN
  have s1 : ¬ (9223372036854775807 < 5 + K.size) := by omega
  have s2 : ¬ (9223372036854775807 < 5 + K.size + 1) := by omega
  have s3 : ¬ (9223372036854775807 < 5 + K.size + 1 + Z.size) := by omega
  rw [hK] at kc
  rw [hZ] at IT
  rw [HR.out]
  have hk3 : (k : Int) < 4 := by omega
  have g0 : ¬ ((k : Int) < 0) := by omega
  clear hf hG hv hN hn hT hL hK hZ hvn hk hKs hZs h16
  go_enter Tryz.func37, Tryz.ntmps37
  go_wp2_with fail
  obtain ⟨W1, hW1⟩ : ∃ W1, (w.alloc (.cells #[.int .i64 1, .int .i64 (k : Int), .int .i64 z] 47)) = W1 := ⟨_, rfl⟩
  have i1 : W1.cell? ⟨w.heap.size, 1, none⟩ = some (.int .i64 (k : Int)) := by rw [← hW1]; simp [go_sem]
  have i2 : W1.cell? ⟨w.heap.size, 2, none⟩ = some (.int .i64 z) := by rw [← hW1]; simp [go_sem]
  rw [hW1] at HB1 kc
  simp only [hW1]
  clear hW1
  refine wp_region_held_drew (S := (fun W => Below W1.heap.size W1 W)) (by kernel_rfl) (bdr (bref _)) (fun hH0 => ?_)
  refine wpAnyH_take (i := 0) (oi := _) (v := ?_) rfl (by kernel_rfl) (by kernel_rfl) (by kernel_rfl) (fun _ _ _ h => h) (Or.inl ⟨?_, ?_⟩) hH0 ?_
  rotate_left
  ·kernel_rfl
  ·(intro W' _; go_simp; (try with_reducible rfl))
  (try simp only [List.getElem_toArray, List.getElem_cons_zero, Act.put, List.setIfInBounds_toArray, List.set_cons_succ, List.set_cons_zero])
  refine wpAnyH_take (i := 1) (oi := _) (v := ?_) rfl (by kernel_rfl) (by kernel_rfl) (by kernel_rfl) (fun _ _ _ h => h) (Or.inl ⟨?_, ?_⟩) hH0 ?_
  rotate_left
  ·kernel_rfl
  ·(intro W' hSw; have f1 := keepc hSw i1; have f2 := keepc hSw i2; have f3 := keepc hSw kc; go_simp; (try with_reducible rfl))
  (try simp only [List.getElem_toArray, List.getElem_cons_succ, List.getElem_cons_zero, Act.put, List.setIfInBounds_toArray, List.set_cons_succ, List.set_cons_zero])
  refine wpAnyH_take (i := 2) (oi := _) (v := ?_) rfl (by kernel_rfl) (by kernel_rfl) (by kernel_rfl) (fun _ _ _ h => h) (Or.inl ⟨?_, ?_⟩) hH0 ?_
  rotate_left
  ·kernel_rfl
  ·(intro W' _; go_simp; (try with_reducible rfl))
  (try simp only [List.getElem_toArray, List.getElem_cons_succ, List.getElem_cons_zero, Act.put, List.setIfInBounds_toArray, List.set_cons_succ, List.set_cons_zero])
  refine wpAnyH_take (i := 3) (oi := _) (v := ?_) rfl (by kernel_rfl) (by kernel_rfl) (by kernel_rfl) (fun _ _ _ h => h) (Or.inl ⟨?_, ?_⟩) hH0 ?_
  rotate_left
  ·kernel_rfl
  ·(intro W' hSw; have f1 := keepc hSw i1; have f2 := keepc hSw i2; have f3 := keepc hSw kc; go_simp; (try with_reducible rfl))
  (try simp only [List.getElem_toArray, List.getElem_cons_succ, List.getElem_cons_zero, Act.put, List.setIfInBounds_toArray, List.set_cons_succ, List.set_cons_zero])
  refine wpAnyH_take (i := 4) (oi := _) (v := ?_) rfl (by kernel_rfl) (by kernel_rfl) (by kernel_rfl) (fun _ _ _ h => h) (Or.inl ⟨?_, ?_⟩) hH0 ?_
  rotate_left
  ·kernel_rfl
  ·(intro W' _; go_simp; (try simp only [if_neg s1, if_neg s2, if_neg s3]); (try with_reducible rfl))
  (try simp only [List.getElem_toArray, List.getElem_cons_succ, List.getElem_cons_zero, Act.put, List.setIfInBounds_toArray, List.set_cons_succ, List.set_cons_zero])
  refine wpAnyH_take (i := 5) (oi := _) (v := ?_) rfl (by kernel_rfl) (by kernel_rfl) (by kernel_rfl) (fun _ _ _ h => h) (Or.inl ⟨?_, ?_⟩) hH0 ?_
  rotate_left
  ·kernel_rfl
  ·(intro W' _; go_simp; (try simp only [if_neg s1, if_neg s2, if_neg s3]); (try with_reducible rfl))
  (try simp only [List.getElem_toArray, List.getElem_cons_succ, List.getElem_cons_zero, Act.put, List.setIfInBounds_toArray, List.set_cons_succ, List.set_cons_zero])
  refine wpAnyH_take (i := 6) (oi := _) (v := ?_) rfl (by kernel_rfl) (by kernel_rfl) (by kernel_rfl) (fun _ _ _ h => h) (Or.inl ⟨?_, ?_⟩) hH0 ?_
  rotate_left
  ·kernel_rfl
  ·(intro W' _; go_simp; (try with_reducible rfl))
  (try simp only [List.getElem_toArray, List.getElem_cons_succ, List.getElem_cons_zero, Act.put, List.setIfInBounds_toArray, List.set_cons_succ, List.set_cons_zero])
  refine wpAnyH_take (i := 7) (oi := _) (v := ?_) rfl (by kernel_rfl) (by kernel_rfl) (by kernel_rfl) (fun _ _ _ h => h) (Or.inl ⟨?_, ?_⟩) hH0 ?_
  rotate_left
  ·kernel_rfl
  ·(intro W' hSw; have f1 := keepc hSw i1; have f2 := keepc hSw i2; have f3 := keepc hSw kc; go_simp; (try with_reducible rfl))
  (try simp only [List.getElem_toArray, List.getElem_cons_succ, List.getElem_cons_zero, Act.put, List.setIfInBounds_toArray, List.set_cons_succ, List.set_cons_zero])
  refine wpAnyH_ready (rs := [8]) (by kernel_rfl) (by simp) ?_
  refine AllReadyH.cons (o := _) rfl (fun K hK => ?_) AllReadyH.nil
  go_simp
  refine (IT.out _ (btr HB1.out hH0)).mono ?_
  rintro r w2 ⟨rfl, hb2⟩
  refine hK.out _ _ (btr hH0 hb2) (fun hH1 => ?_)
  clear hK K
  (try simp only [List.getElem_toArray, List.getElem_cons_succ, List.getElem_cons_zero, Act.put, List.setIfInBounds_toArray, List.set_cons_succ, List.set_cons_zero])
  refine wpAnyH_take (i := 9) (oi := _) (v := ?_) rfl (by kernel_rfl) (by kernel_rfl) (by kernel_rfl) (fun _ _ _ h => h) (Or.inl ⟨?_, ?_⟩) hH1 ?_
  rotate_left
  ·kernel_rfl
  ·(intro W' _; go_simp; (try simp only [if_neg s1, if_neg s2, if_neg s3]); (try with_reducible rfl))
  (try simp only [List.getElem_toArray, List.getElem_cons_succ, List.getElem_cons_zero, Act.put, List.setIfInBounds_toArray, List.set_cons_succ, List.set_cons_zero])
  refine wpAnyH_take (i := 10) (oi := _) (v := ?_) rfl (by kernel_rfl) (by kernel_rfl) (by kernel_rfl) (fun _ _ _ h => h) (Or.inl ⟨?_, ?_⟩) hH1 ?_
  rotate_left
  ·kernel_rfl
  ·(intro W' _; go_simp; (try with_reducible rfl))
  (try simp only [List.getElem_toArray, List.getElem_cons_succ, List.getElem_cons_zero, Act.put, List.setIfInBounds_toArray, List.set_cons_succ, List.set_cons_zero])
  refine wpAnyH_done (by kernel_rfl) ?_ _
  go_wp2_with fail
  go_ret
  exact ⟨rfl, btr HB1.out (btr (bdr (bref _)) hb2)⟩
 have e1 : (o == 1) = false := beq_no h1
 by_cases h2 : o = 2
 ·subst h2
  obtain ⟨k, rfl⟩ : ∃ k : Nat, a = (k : Int) := ⟨a.toNat, by omega⟩
  have hk : k < vn := by omega
  have hL : lnT vs (2, (k : Int), z) = [108, 111, 97, 100, 32] ++ (vs.getD k V0).1 := by unfold lnT; simp [V0]
  rw [hL, hvn]
  obtain ⟨b, off, rfl, hb, c0, c1⟩ := (hv.keep HB1.out) k (by omega)
  obtain ⟨y, hy⟩ : ∃ y, vs.getD k V0 = y := ⟨_, rfl⟩
  rw [hy] at c0 c1 ⊢
  obtain ⟨y0, y1⟩ := y
  obtain ⟨K, hK⟩ : ∃ K, str y0 = K := ⟨_, rfl⟩
  have HR := Lib.hid (show str ([108, 111, 97, 100, 32] ++ y0) = ⟨#[108, 111, 97, 100, 32]⟩ ++ K by rw [← hK, ← str_app]; rfl)
  have hKs : K.size ≤ 16 := by
   rw [← hK, str_size]
   have := h16 k
   rw [show vs.getD k ([], 0) = (y0, y1) from hy] at this
   exact this
  have s1 : ¬ (9223372036854775807 < 5 + K.size) := by omega
  simp only [hK] at c0 c1 ⊢
  rw [HR.out]
  have hkz : (k : Int) < (vn : Int) := by omega
  have g0 : ¬ ((k : Int) < 0) := by omega
  clear hf hG hv hN hn hL hK hvn hy h1 hKs h16
  go_enter Tryz.func37, Tryz.ntmps37
  go_wp2_with fail
  go_ret
  exact ⟨rfl, HB1.out⟩
 have e2 : (o == 2) = false := beq_no h2
 by_cases h3 : o = 3
 ·subst h3
  obtain ⟨k, rfl⟩ : ∃ k : Nat, a = (k : Int) := ⟨a.toNat, by omega⟩
  have hk : 5 ≤ k ∧ k ≤ 18 := by omega
  have hT : opWs.getD ((k : Int) - 5).toNat [] = ons.getD k [] := by
   have e : ((k : Int) - 5).toNat = k - 5 := by omega
   rw [e]
   have : ∀ k, k < 19 → 5 ≤ k → opWs.getD (k - 5) [] = ons.getD k [] := by decide
   exact this k (by omega) hk.1
  have hL : lnT vs (3, (k : Int), z) = ons.getD k [] := by unfold lnT; simp only [if_neg (show ¬ (3 : Int) = 1 by decide), if_neg (show ¬ (3 : Int) = 2 by decide), if_true]; exact hT
  rw [hL, hvn]
  have kc := keepc HB1.out (hG.2.2.2.2 k (by omega))
  obtain ⟨K, hK⟩ : ∃ K, str (ons.getD k []) = K := ⟨_, rfl⟩
  rw [hK] at kc ⊢
  have hk3 : (k : Int) < 19 := by omega
  have g0 : ¬ ((k : Int) < 0) := by omega
  clear hf hG hv hN hn hT hL hK hvn hk h1 h2 h16
  go_enter Tryz.func37, Tryz.ntmps37
  go_wp2_with fail
  go_ret
  exact ⟨rfl, HB1.out⟩
 have e3 : (o == 3) = false := beq_no h3
 have IT := Lib.hid (fun W (hW : Below w.heap.size w W) => kitoa a (by omega) (by omega) W (hG.2.1.keep hW))
 obtain ⟨Z, hZ⟩ : ∃ Z, str (itoa a) = Z := ⟨_, rfl⟩
 rw [hZ] at IT
 have hZs : Z.size ≤ 20 := by rw [← hZ, str_size]; exact itoa_few a (by omega) (by omega)
 have s1 : ¬ (9223372036854775807 < 5 + Z.size) := by omega
 have s2 : ¬ (9223372036854775807 < 6 + Z.size) := by omega
 by_cases h4 : o = 4
 ·subst h4
  have hL : lnT vs (4, a, z) = [106, 117, 109, 112, 32] ++ itoa a := by unfold lnT; simp
  have HR := Lib.hid (show str ([106, 117, 109, 112, 32] ++ itoa a) = ⟨#[106, 117, 109, 112, 32]⟩ ++ Z by rw [← hZ, ← str_app]; rfl)
  rw [hL, hvn, HR.out]
  clear hf hG hv hN hn hL hZ hvn h1 h2 h3 hZs h16
  go_enter Tryz.func37, Tryz.ntmps37
  go_wp2_with fail
  refine (IT.out _ HB1.out).mono ?_
  rintro r w2 ⟨rfl, hb2⟩
  have HB2 := Lib.hid (btr HB1.out hb2)
  clear hb2
  go_wp2_with fail
  go_ret
  exact ⟨rfl, HB2.out⟩
 ·have h5 : o = 5 := by omega
  subst h5
  have hL : lnT vs (5, a, z) = [102, 97, 108, 115, 101, 32] ++ itoa a := by unfold lnT; simp
  have HR := Lib.hid (show str ([102, 97, 108, 115, 101, 32] ++ itoa a) = ⟨#[102, 97, 108, 115, 101, 32]⟩ ++ Z by rw [← hZ, ← str_app]; rfl)
  rw [hL, hvn, HR.out]
  clear hf hG hv hN hn hL hZ hvn h1 h2 h3 h4 hZs h16
  go_enter Tryz.func37, Tryz.ntmps37
  go_wp2_with fail
  refine (IT.out _ HB1.out).mono ?_
  rintro r w2 ⟨rfl, hb2⟩
  have HB2 := Lib.hid (btr HB1.out hb2)
  clear hb2
  go_wp2_with fail
  go_ret
  exact ⟨rfl, HB2.out⟩
end Go.Proofs.YthanoilbcdhbkaaGreatDoor

namespace Go.Proofs.YthanoilbcdhbkaaGreatDoor
open Go Go.RowKit Go.Lib Go.Shelf WM TM EM YM

theorem lines_few {t : Int} {vs : List Vr} {c : List Ins} (h : (runC t vs c).2 = 0) (hN : Fits c) : ∀ k, k ≤ c.length → (linesT vs (c.take k)).length ≤ 101 * k := by
 obtain ⟨h1, h2, h3⟩ := runC_valid h
 intro k
 induction k with
 | zero => intro _; simp [linesT]
 | succ k ih =>
  intro hk
  rw [linesT_next vs c k (by omega), List.length_append, insT_ln (h3 k (by omega)), List.length_append]
  have e1 := ih (by omega)
  have e2 := lnT_few h2 (h3 k (by omega)) (hN _ (getD_mem'' I0 c k (by omega))) (by omega)
  have e3 : ([10] : List UInt8).length = 1 := rfl
  omega
theorem prT_bad {t : Int} {vs : List Vr} {c : List Ins} (h : (runC t vs c).2 ≠ 0) : prT t vs c = [] := by unfold prT; rw [if_neg h]
theorem prT_ok {t : Int} {vs : List Vr} {c : List Ins} (h : (runC t vs c).2 = 0) : prT t vs c = linesT vs c := by unfold prT; rw [if_pos h]
set_option maxRecDepth 100000 in
set_option maxHeartbeats 8000000 in
theorem mPrint (cd : Cd) (vo io : Option Addr) (vc ic : Nat) (w : World) (hG : Gk w) (h : CodeAt cd vo vc io ic w) (hfit : Fits cd.c) :
  Calls Tryz.prog 20 #[.agg #[.int .i64 cd.t, .slice vo cd.vs.length vc, .slice io cd.c.length ic]] w fun r w' => r = .returned (.string (str (prT cd.t cd.vs cd.c))) ∧ Below w.heap.size w w' := by
 have CV := Lib.hid (fun W (hW : Below w.heap.size w W) => mValidate cd vo io vc ic W (hG.1.keep hW) (h.keep hW) hfit)
 obtain ⟨q, hq⟩ : ∃ q, (runC cd.t cd.vs cd.c).2 = q := ⟨_, rfl⟩
 rw [hq] at CV
 have HB0 := Lib.hid (show Below w.heap.size w (w.alloc (.cells #[.int .i64 cd.t, .slice vo cd.vs.length vc, .slice io cd.c.length ic] 30)) from bal (bref w) _)
 by_cases hq0 : q = 0
 rotate_left
 ·rw [prT_bad (by rw [hq]; exact hq0)]
  have hqb : (q != 0) = true := bne_yes hq0
  obtain ⟨t, ht⟩ : ∃ t, cd.t = t := ⟨_, rfl⟩
  obtain ⟨vn, hvn⟩ : ∃ n, cd.vs.length = n := ⟨_, rfl⟩
  obtain ⟨n, hn⟩ : ∃ n, cd.c.length = n := ⟨_, rfl⟩
  rw [ht, hvn, hn] at CV HB0 ⊢
  clear h hfit hG hq ht hvn hn hq0
  go_enter Tryz.func20, Tryz.ntmps20
  go_wp2_with fail
  refine (CV.out _ HB0.out).mono ?_
  rintro r w1 ⟨rfl, hb1⟩
  have HB1 := Lib.hid (btr HB0.out hb1)
  clear hb1
  go_wp2_with fail
  go_ret
  exact ⟨rfl, HB1.out⟩
 subst hq0
 rw [prT_ok hq]
 have HVAL := Lib.hid (runC_valid hq)
 have HFEW := Lib.hid (lines_few hq hfit)
 have H16 := Lib.hid (name_few HVAL.out.2.1)
 have LN := Lib.hid (fun k (hk : k < cd.c.length) W (hW : Below w.heap.size w W) => mline cd.vs vo vc cd.c.length k (cd.c.getD k I0) W (hG.keep hW) (h.vars.keep hW) (HVAL.out.2.2 k hk) (hfit _ (getD_mem'' I0 cd.c k hk)) (by have := HVAL.out.1; omega) H16.out)
 have HC := Lib.hid h
 have NX := Lib.hid (fun k (hk : k < cd.c.length) => (linesT_next cd.vs cd.c k hk).trans (congrArg _ (insT_ln (HVAL.out.2.2 k hk))))
 obtain ⟨t, ht⟩ : ∃ t, cd.t = t := ⟨_, rfl⟩
 obtain ⟨vn, hvn⟩ : ∃ n, cd.vs.length = n := ⟨_, rfl⟩
 obtain ⟨n, hn⟩ : ∃ n, cd.c.length = n := ⟨_, rfl⟩
 have HN := Lib.hid hn
 have hn128 : n ≤ 128 := by rw [← hn]; exact HVAL.out.1
 rw [hn] at LN NX HFEW
 rw [hvn] at LN
 rw [ht, hvn, hn] at CV HB0
 rw [ht, hvn, hn]
 obtain ⟨OUT, hOUT⟩ : ∃ OUT, str (linesT cd.vs cd.c) = OUT := ⟨_, rfl⟩
 rw [hOUT]
 have HOUT := Lib.hid hOUT
 clear h hfit hG hq ht hvn hn HVAL hOUT
 go_enter Tryz.func20, Tryz.ntmps20
 go_wp2_with fail
 refine (CV.out _ HB0.out).mono ?_
 rintro r w1 ⟨rfl, hb1⟩
 have a1 := keepc hb1 (show (w.alloc (.cells #[.int .i64 t, .slice vo vn vc, .slice io n ic] 30)).cell? ⟨w.heap.size, 1, none⟩ = some (.slice vo vn vc) by simp [go_sem])
 have a2 := keepc hb1 (show (w.alloc (.cells #[.int .i64 t, .slice vo vn vc, .slice io n ic] 30)).cell? ⟨w.heap.size, 2, none⟩ = some (.slice io n ic) by simp [go_sem])
 have HB1 := Lib.hid (btr HB0.out hb1)
 have hMb : w.heap.size < w1.heap.size := World.block_lt_of_cell? w1 _ a1
 have hb2 : Below w1.heap.size w1 (w1.alloc (.cells #[.pointer none, .slice none 0 0] 63)) := bal (bref w1) _
 have HS := Lib.hid (IsB.new w1)
 have HB2 := Lib.hid (btr HB1.out hb2)
 replace a1 := keepc hb2 a1
 replace a2 := keepc hb2 a2
 clear hb1 hb2 CV HB0
 go_wp2_with fail
 go_loopw [12] (fun i wr => ∃ (k : Nat), k ≤ n ∧ i = .int .i64 k ∧ IsB w1.heap.size (linesT cd.vs (cd.c.take k)) wr ∧ wr.cell? ⟨w.heap.size, 1, none⟩ = some (.slice vo vn vc) ∧ wr.cell? ⟨w.heap.size, 2, none⟩ = some (.slice io n ic) ∧ Below w.heap.size w wr ∧ w1.heap.size ≤ wr.heap.size) (fun i _ => n - (RowKit.intOf i).toNat)
 case atStart => exact ⟨0, by omega, rfl, HS.out, a1, a2, HB2.out, by simp⟩
 case round =>
  obtain ⟨k, hk, rfl, hS, b1, b2, hB, hsz⟩ := hrel
  have HS := Lib.hid hS
  have HB := Lib.hid hB
  clear hS hB a1 a2
  by_cases hlt : k < n
  ·have hkz : (k : Int) < (n : Int) := by omega
   obtain ⟨ib, off, rfl, hib, c0, c1, c2⟩ := (HC.out.keep HB.out).ins k (by rw [HN.out]; exact hlt)
   have LNk := Lib.hid (LN.out k hlt)
   have NXk := Lib.hid (NX.out k hlt)
   have FEW := HFEW.out k hk
   have FEW2 := HFEW.out (k + 1) hlt
   rw [NXk.out, List.length_append, List.length_append] at FEW2
   obtain ⟨x, hx⟩ : ∃ x, cd.c.getD k I0 = x := ⟨_, rfl⟩
   rw [show cd.c.getD k (0, 0, 0) = x from hx] at NXk FEW2
   rw [hx] at c0 c1 c2 LNk
   obtain ⟨o, a, z⟩ := x
   simp only at c0 c1 c2
   obtain ⟨LT, hLT⟩ : ∃ LT, lnT cd.vs (o, a, z) = LT := ⟨_, rfl⟩
   rw [hLT] at LNk NXk FEW2
   obtain ⟨L, hL⟩ : ∃ L, linesT cd.vs (cd.c.take k) = L := ⟨_, rfl⟩
   rw [hL] at NXk HS FEW FEW2
   have HBi := Lib.hid (show Below wr.heap.size wr (wr.alloc (.cells #[.int .i64 o, .int .i64 a, .int .i64 z] 47)) from bal (bref wr) _)
   replace b1 := keepc HBi.out b1
   replace b2 := keepc HBi.out b2
   have hl1 : L.length + (str LT).size ≤ 140737488355328 := by rw [str_size]; omega
   have hl2 : (L ++ LT).length + 1 ≤ 140737488355328 := by rw [List.length_append]; omega
   have HL1 := Lib.hid hl1
   have HL2 := Lib.hid hl2
   clear hx hLT hL FEW FEW2 hl1 hl2
   go_wp2_with fail
   refine (LNk.out _ (btr HB.out HBi.out)).mono ?_
   rintro r w2 ⟨rfl, hb2⟩
   replace b1 := keepc hb2 b1
   replace b2 := keepc hb2 b2
   have HS2 := Lib.hid ((HS.out.keep HBi.out).keep hb2)
   have HB2 := Lib.hid (btr (btr HB.out HBi.out) hb2)
   clear hb2
   go_wp2_with fail
   refine (bwrite w1.heap.size L (str LT) _ HS2.out HL1.out).mono ?_
   rintro r w3 ⟨rfl, hs3, hb3, _⟩
   rw [byt_str] at hs3
   have HS3 := Lib.hid hs3
   replace b1 := (hb3.cell (p := ⟨w.heap.size, 1, none⟩) hMb).trans b1
   replace b2 := (hb3.cell (p := ⟨w.heap.size, 2, none⟩) hMb).trans b2
   have HB3 := Lib.hid (HB2.out.trans (hb3.mono (Nat.le_of_lt hMb)))
   have hsz3 : w1.heap.size ≤ w3.heap.size := Nat.le_of_lt hs3.lt
   clear hs3 hb3
   go_wp2_with fail
   refine (bbyte w1.heap.size (L ++ LT) 10 10 rfl _ HS3.out HL2.out).mono ?_
   rintro r w4 ⟨rfl, hs4, hb4, _⟩
   rw [List.append_assoc, ← NXk.out] at hs4
   have HS4 := Lib.hid hs4
   replace b1 := (hb4.cell (p := ⟨w.heap.size, 1, none⟩) hMb).trans b1
   replace b2 := (hb4.cell (p := ⟨w.heap.size, 2, none⟩) hMb).trans b2
   have HB4 := Lib.hid (HB3.out.trans (hb4.mono (Nat.le_of_lt hMb)))
   have hsz4 : w1.heap.size ≤ w4.heap.size := Nat.le_of_lt hs4.lt
   clear hs4 hb4
   go_wp2_with fail
   go_roundw
   case rel => exact ⟨k + 1, by omega, by go_num, HS4.out, b1, b2, HB4.out, hsz4⟩
   case measure => simp [RowKit.intOf]; omega
  ·have he : k = n := by omega
   subst he
   have ht : cd.c.take k = cd.c := by rw [← HN.out, List.take_length]
   rw [ht] at HS
   clear ht
   go_wp2_with fail
   refine (bstring w1.heap.size _ _ HS.out).mono ?_
   rintro r w4 ⟨rfl, hb4⟩
   have HB4 := Lib.hid (HB.out.trans (hb4.mono (Nat.le_of_lt hMb)))
   clear hb4
   rw [HOUT.out]
   go_wp2_with fail
   go_ret
   exact ⟨rfl, HB4.out⟩
end Go.Proofs.YthanoilbcdhbkaaGreatDoor
